package polc_test

import (
	"errors"
	"fmt"
	"math"
	"math/rand"
	"reflect"
	"regexp"
	"slices"
	"strconv"
	"strings"
	"testing"

	"herald/api"
	"herald/polc"
)

// most is how many conditions, actions and terms there may be, as the document writes it.
const most = 64

// The numbers that are no kinds have the lowest bits of some that are.
var (
	noCondKinds   = []int{math.MinInt, math.MinInt32, -1 << 32, -7, -1, 0, 8, 9, 15, 255, 256, 257, 1<<16 + 1, 1 << 31, 1<<32 + 1, 1<<32 + 7, math.MaxInt32, math.MaxInt}
	noActionKinds = []int{math.MinInt, math.MinInt32, -1 << 32, -10, -1, 0, 11, 12, 15, 255, 256, 257, 1<<16 + 1, 1 << 31, 1<<32 + 1, 1<<32 + 10, math.MaxInt32, math.MaxInt}
	names         = []string{"a", "z", "a-", "a--", "a-0", "a0", "a9z", "if", "not", "and", "then", "prefix", "peer", "origin", "igp", "fam", "v4", "accept", "reject", "no-med", "del", "add", "no-export", "a23456789012345", "a234567890123456", "z---------------", "zzzzzzzzzzzzzzzz"}
	notNames      = []string{"", "A", "Z", "1", "1a", "9", "-", "-a", "_", "aA", "aZb", "a_", "a.b", "a b", "a ", " a", " ", "  ", "a\n", "\na", "a\x00", "\x00", "a:b", "a`", "`a", "a{", "{a", "a@", "a[", "\xe4", "a\xe4", "aä", "a\xff", "a234567890123456-", "a2345678901234567", strings.Repeat("a", 256), strings.Repeat("a", 257), strings.Repeat("a", 1<<16+1), strings.Repeat("a", 15) + "A"}
	notAddrs      = []string{"", "a", "abc", "abcde", "abcdefgh", "abcdefghijklmno", "abcdefghijklmnopq", strings.Repeat("\x00", 32), strings.Repeat("\x00", 256+4), strings.Repeat("\x00", 1<<16+4), "10.0.0.1"}
	addrs         = []string{"\x0a\x00\x00\x01", "\x00\x00\x00\x00", "\xff\xff\xff\xff", "abcd", strings.Repeat("\x00", 16), strings.Repeat("\xff", 16), "\x20\x01\x0d\xb8\x00\x00\x00\x10\x01\x00\x0a\x0b\x00\x0c\x00\x01"}
	edges32       = []uint32{0, 1, 2, 3, 7, 8, 9, 10, 255, 256, 257, 258, 264, 65535, 65536, 65537, 65544, 1<<31 - 1, 1 << 31, 1<<31 + 1, api.NoExport - 1, api.NoExport, api.NoAdvertise, api.NoConfed, api.NoConfed + 1, math.MaxUint32 - 1, math.MaxUint32}
	edges         = []int{math.MinInt, math.MinInt + 1, math.MinInt32, -1 << 32, -65536, -65535, -5, -2, -1, 0, 1, 2, 3, 4, 5, 6, 7, 255, 256, 257, 258, 261, 65534, 65535, 65536, 65537, 1<<31 - 1, 1 << 31, 1 << 32, 1<<32 + 1, 1<<32 + 2, 1<<32 + 65535, 1 << 48, math.MaxInt - 1, math.MaxInt}
)

var nameForm = regexp.MustCompile(`\A[a-z][a-z0-9-]{0,15}\z`)

func isName(s string) bool { return nameForm.MatchString(s) }

// rightCond is the model of which conditions may be: one without a Name or without an N, and what holds of the other.
func rightCond(c api.Cond) bool {
	switch c.Kind {
	case 1, 2, 3, 4:
		return isName(c.Name) && c.N == 0
	case 5:
		return c.Name == "" && slices.Contains([]int{0, 1, 2}, c.N)
	case 6:
		return c.Name == "" && 0 <= c.N && c.N <= 65535
	case 7:
		return c.Name == "" && slices.Contains([]int{1, 2, 3, 4, 5}, c.N)
	}
	return false
}

// rightAction is the model of which actions may be: the fields that are not named are zero, and what holds of the other.
func rightAction(a api.Action) bool {
	name, n, addr := a.Name == "", a.N == 0, a.Addr == ""
	switch a.Kind {
	case 1, 2, 5:
		return name && n && addr
	case 3, 4, 6:
		return name && addr
	case 7:
		return isName(a.Name) && n && addr
	case 8:
		return name && addr && slices.Contains([]uint32{1, 2, 3, 4, 5, 6, 7, 8}, a.N)
	case 9:
		return name && n && (len(a.Addr) == 4 || len(a.Addr) == 16)
	case 10:
		return name && addr && slices.Contains([]uint32{0, 1, 2}, a.N)
	}
	return false
}

func rightTerm(t api.Term) bool {
	if len(t.Conds) > most || len(t.Actions) == 0 || len(t.Actions) > most {
		return false
	}
	for _, c := range t.Conds {
		if !rightCond(c) {
			return false
		}
	}
	for i, a := range t.Actions {
		if !rightAction(a) || a.Kind <= 2 && i != len(t.Actions)-1 {
			return false
		}
	}
	return true
}

func rightPolicy(p api.Policy) bool {
	for _, t := range p.Terms {
		if !rightTerm(t) {
			return false
		}
	}
	return isName(p.Name) && len(p.Terms) <= most
}

// wantedSets tells for each set that a policy names the kinds that are asked of it.
func wantedSets(p api.Policy) map[string][]int {
	wanted := map[string][]int{}
	for _, t := range p.Terms {
		for _, c := range t.Conds {
			if c.Kind >= 1 && c.Kind <= 3 {
				wanted[c.Name] = append(wanted[c.Name], c.Kind)
			}
		}
		for _, a := range t.Actions {
			if a.Kind == 7 {
				wanted[a.Name] = append(wanted[a.Name], 2)
			}
		}
	}
	return wanted
}

// modelCheck is Check, of sets that all may be by themselves.
func modelCheck(p api.Policy, l []api.Set) api.Errno {
	kinds := map[string]int{}
	for _, s := range l {
		if _, twice := kinds[s.Name]; twice {
			return 2
		}
		kinds[s.Name] = s.Kind
	}
	if !rightPolicy(p) {
		return 2
	}
	for name, asked := range wantedSets(p) {
		for _, kind := range asked {
			if is, there := kinds[name]; !there || is != kind {
				return 8
			}
		}
	}
	return 0
}

// modelProgram is what Compile makes of a policy that Check takes. Each instruction's To is told when the whole stands, by looking for the place at which the next term begins.
func modelProgram(p api.Policy, l []api.Set) api.Program {
	type place struct {
		ins  api.Ins
		term int
	}
	var places []place
	for i, t := range p.Terms {
		for _, c := range t.Conds {
			places = append(places, place{api.Ins{Kind: 1, Cond: c}, i})
		}
		for _, a := range t.Actions {
			places = append(places, place{api.Ins{Kind: 2, Act: a}, i})
		}
	}
	places = append(places, place{api.Ins{Kind: 3, N: map[bool]int{true: 1}[p.Else]}, len(p.Terms)})
	var x api.Program
	for _, at := range places {
		if at.ins.Kind == 1 {
			at.ins.To = slices.IndexFunc(places, func(o place) bool { return o.term > at.term })
		}
		x.Ins = append(x.Ins, at.ins)
	}
	wanted := wantedSets(p)
	for _, s := range l {
		if _, is := wanted[s.Name]; is {
			x.Sets = append(x.Sets, copySet(s))
		}
	}
	return x
}

var (
	originNames = []string{"igp", "egp", "incomplete"}
	famNames    = []string{"", "v4", "v6", "l4", "vpn4", "vpn6"}
)

func modelAddr(b string) string {
	if len(b) == 4 {
		return fmt.Sprintf("%d.%d.%d.%d", b[0], b[1], b[2], b[3])
	}
	var l []string
	for i := 0; i < 16; i += 2 {
		l = append(l, fmt.Sprintf("%x", int(b[i])*256+int(b[i+1])))
	}
	return strings.Join(l, ":")
}

func modelComm(c uint32) string {
	switch c {
	case 0xffffff01:
		return "no-export"
	case 0xffffff02:
		return "no-advertise"
	case 0xffffff03:
		return "no-export-subconfed"
	}
	return fmt.Sprintf("%d:%d", c/65536, c%65536)
}

// condText and actionText are the texts of the document's rows, for what may be.
func condText(c api.Cond) string {
	ahead := map[bool]string{true: "not "}[c.Not]
	switch c.Kind {
	case 1:
		return ahead + "prefix " + c.Name
	case 2:
		return ahead + "comm " + c.Name
	case 3:
		return ahead + "path " + c.Name
	case 4:
		return ahead + "peer " + c.Name
	case 5:
		return ahead + "origin " + originNames[c.N]
	case 6:
		return fmt.Sprintf("%slength %d", ahead, c.N)
	}
	return ahead + "fam " + famNames[c.N]
}

func actionText(a api.Action) string {
	switch a.Kind {
	case 1:
		return "accept"
	case 2:
		return "reject"
	case 3:
		return fmt.Sprintf("pref %d", a.N)
	case 4:
		return fmt.Sprintf("med %d", a.N)
	case 5:
		return "no-med"
	case 6:
		return "add " + modelComm(a.N)
	case 7:
		return "del " + a.Name
	case 8:
		return fmt.Sprintf("prepend %d", a.N)
	case 9:
		return "next " + modelAddr(a.Addr)
	}
	return "origin " + originNames[a.N]
}

// modelText is the text of a term that may be.
func modelText(t api.Term) string {
	var conds, actions []string
	for _, c := range t.Conds {
		conds = append(conds, condText(c))
	}
	for _, a := range t.Actions {
		actions = append(actions, actionText(a))
	}
	text := "then " + strings.Join(actions, " and ")
	if len(conds) > 0 {
		text = "if " + strings.Join(conds, " and ") + " " + text
	}
	return text
}

var (
	condForm   = regexp.MustCompile(`\A(not )?(?:(prefix|comm|path|peer) ([a-z][a-z0-9-]*)|origin ([a-z]+)|length ([0-9]+)|fam ([a-z0-9]+)) (and|then) `)
	actionForm = regexp.MustCompile(`\A(?:(accept|reject|no-med)|(pref|med|prepend) ([0-9]+)|add ([a-z0-9:-]+)|del ([a-z][a-z0-9-]*)|next ([0-9a-f.:]+)|origin ([a-z]+))( and |\z)`)
)

// modelTerm reads a text piece by piece by its form; what comes of it is the term just if it may be, and its text is the one that was read.
func modelTerm(s string) (api.Term, bool) {
	var t api.Term
	rest, ok := s, true
	if rest, ok = strings.CutPrefix(s, "if "); ok {
		for word := "and"; word == "and"; {
			m := condForm.FindStringSubmatch(rest)
			if m == nil {
				return api.Term{}, false
			}
			t.Conds, rest, word = append(t.Conds, modelCond(m)), rest[len(m[0]):], m[7]
		}
	} else if rest, ok = strings.CutPrefix(s, "then "); !ok {
		return api.Term{}, false
	}
	for word := " and "; word == " and "; {
		m := actionForm.FindStringSubmatch(rest)
		if m == nil {
			return api.Term{}, false
		}
		t.Actions, rest, word = append(t.Actions, modelAction(m)), rest[len(m[0]):], m[8]
	}
	if !rightTerm(t) || modelText(t) != s {
		return api.Term{}, false
	}
	return t, true
}

func modelCond(m []string) api.Cond {
	c := api.Cond{Not: m[1] != ""}
	switch {
	case m[2] != "":
		c.Kind, c.Name = 1+slices.Index([]string{"prefix", "comm", "path", "peer"}, m[2]), m[3]
	case m[4] != "":
		c.Kind, c.N = 5, slices.Index(originNames, m[4])
	case m[5] != "":
		c.Kind, c.N = 6, int(modelNumber(m[5]))
	default:
		c.Kind, c.N = 7, slices.Index(famNames, m[6])
	}
	return c
}

func modelAction(m []string) api.Action {
	switch {
	case m[1] != "":
		return api.Action{Kind: map[string]int{"accept": 1, "reject": 2, "no-med": 5}[m[1]]}
	case m[2] != "":
		return api.Action{Kind: map[string]int{"pref": 3, "med": 4, "prepend": 8}[m[2]], N: modelNumber(m[3])}
	case m[4] != "":
		return api.Action{Kind: 6, N: commOf(m[4])}
	case m[5] != "":
		return api.Action{Kind: 7, Name: m[5]}
	case m[6] != "":
		return api.Action{Kind: 9, Addr: addrOf(m[6])}
	}
	return api.Action{Kind: 10, N: uint32(slices.Index(originNames, m[7]))}
}

// modelNumber, commOf and addrOf need not refuse anything: what they answer is written again, and held against the text.
func modelNumber(s string) uint32 {
	n, _ := strconv.ParseUint(s, 10, 32)
	return uint32(n)
}

func commOf(s string) uint32 {
	for _, c := range []uint32{api.NoExport, api.NoAdvertise, api.NoConfed} {
		if modelComm(c) == s {
			return c
		}
	}
	high, low, _ := strings.Cut(s, ":")
	return modelNumber(high)<<16 + modelNumber(low)
}

func addrOf(s string) string {
	var b []byte
	if strings.Contains(s, ":") {
		for _, word := range strings.Split(s, ":") {
			n, _ := strconv.ParseUint(word, 16, 16)
			b = append(b, byte(n>>8), byte(n))
		}
		return string(b)
	}
	for _, word := range strings.Split(s, ".") {
		b = append(b, byte(modelNumber(word)))
	}
	return string(b)
}

// condsOf has conditions that may be, of each kind, with and without Not, at the edges.
func condsOf() []api.Cond {
	var l []api.Cond
	for kind := -1; kind <= 8; kind++ {
		for _, name := range append([]string{""}, names...) {
			for _, n := range edges {
				if c := (api.Cond{Kind: kind, Name: name, N: n}); rightCond(c) {
					l = append(l, c)
					c.Not = true
					l = append(l, c)
				}
			}
		}
	}
	return l
}

// actionsOf has actions that may be, of each kind, at the edges.
func actionsOf() []api.Action {
	var l []api.Action
	for kind := -1; kind <= 11; kind++ {
		for _, name := range append([]string{""}, names...) {
			for _, addr := range append([]string{""}, addrs...) {
				for _, n := range edges32 {
					if a := (api.Action{Kind: kind, Name: name, Addr: addr, N: n}); rightAction(a) {
						l = append(l, a)
					}
				}
			}
		}
	}
	return l
}

// goOn are the actions behind which another one may stand.
func goOn() []api.Action {
	return slices.DeleteFunc(actionsOf(), func(a api.Action) bool { return a.Kind <= 2 })
}

// randomTerm is a term that may be.
func randomTerm(r *rand.Rand, conds []api.Cond, actions []api.Action) api.Term {
	var t api.Term
	for range r.Intn(4) {
		t.Conds = append(t.Conds, conds[r.Intn(len(conds))])
	}
	for range r.Intn(4) {
		t.Actions = append(t.Actions, actions[r.Intn(len(actions))])
	}
	if len(t.Actions) == 0 || r.Intn(3) == 0 {
		t.Actions = append(t.Actions, api.Action{Kind: 1 + r.Intn(2)})
	}
	return t
}

// Sets of each kind, that may be.
func prefixSet(name string) api.Set {
	ten := api.Prefix{Fam: api.V4, Addr: "\x0a\x00\x00\x00", Len: 8}
	return api.Set{Name: name, Kind: api.SetPrefix, Items: []api.Item{{Prefix: ten, Low: 8, High: 32}, {Prefix: ten, Low: 9, High: 10}}}
}

func commSet(name string) api.Set {
	return api.Set{Name: name, Kind: api.SetComm, Comms: []uint32{1, 2, 5}}
}

func pathSet(name string) api.Set {
	return api.Set{Name: name, Kind: api.SetPath, Paths: [][]api.Atom{{{Kind: api.AtomAS, AS: 1}, {Kind: api.AtomMany}}, nil, {{Kind: api.AtomAny}}}}
}

func setOf(name string, kind int) api.Set {
	return [](func(string) api.Set){prefixSet, commSet, pathSet}[kind-1](name)
}

// wrongSets may not be, each for a reason of its own.
func wrongSets(name string) []api.Set {
	p, c, w := prefixSet(name), commSet(name), pathSet(name)
	p.Items[1].High = 33
	c.Comms[2] = 2
	w.Paths[0][1].AS = 1
	both := commSet(name)
	both.Items = prefixSet(name).Items
	long := api.Set{Name: name, Kind: api.SetPath, Paths: make([][]api.Atom, most+1)}
	return []api.Set{{}, {Name: name}, {Name: name, Kind: 4}, {Name: name, Kind: -1}, p, c, w, both, long, commSet(""), commSet("A"), commSet("a234567890123456-"), pathSet("1")}
}

func copySet(s api.Set) api.Set {
	s.Items, s.Comms, s.Paths = slices.Clone(s.Items), slices.Clone(s.Comms), slices.Clone(s.Paths)
	for i, l := range s.Paths {
		s.Paths[i] = slices.Clone(l)
	}
	return s
}

func copyTerm(t api.Term) api.Term {
	return api.Term{Conds: slices.Clone(t.Conds), Actions: slices.Clone(t.Actions)}
}

// Marks that stand in the room behind lists.
var (
	condMark   = api.Cond{Kind: 77, Not: true, Name: "mark", N: 78}
	actionMark = api.Action{Kind: 77, Name: "mark", N: 78, Addr: "mark"}
	itemMark   = api.Item{Low: 78, High: 79}
	atomMark   = api.Atom{Kind: 77, AS: 78}
	termMark   = api.Term{Conds: []api.Cond{condMark}}
	setMark    = api.Set{Name: "mark", Kind: 77}
)

// roomy is a copy of a list with room behind its end, in which there are marks; a nil list stays one.
func roomy[T any](l []T, mark T) []T {
	if l == nil {
		return nil
	}
	return append(append(make([]T, 0, len(l)+3), l...), mark, mark, mark)[:len(l)]
}

func roomyTerm(t api.Term) api.Term {
	return api.Term{Conds: roomy(t.Conds, condMark), Actions: roomy(t.Actions, actionMark)}
}

func roomyPolicy(p api.Policy) api.Policy {
	p.Terms = roomy(p.Terms, termMark)
	for i, t := range p.Terms {
		p.Terms[i] = roomyTerm(t)
	}
	return p
}

func roomySets(l []api.Set) []api.Set {
	l = roomy(l, setMark)
	for i, s := range l {
		s.Items, s.Comms, s.Paths = roomy(s.Items, itemMark), roomy(s.Comms, 77), roomy(s.Paths, []api.Atom{atomMark})
		for k, atoms := range s.Paths {
			s.Paths[k] = roomy(atoms, atomMark)
		}
		l[i] = s
	}
	return l
}

// whole is a list with the room behind its end.
func whole[T any](l []T) []T { return l[:cap(l)] }

// wantTermKept looks whether a term, and the room behind its lists, is as roomyTerm made it.
func wantTermKept(t *testing.T, what string, is, was api.Term) {
	t.Helper()
	was = roomyTerm(was)
	if !slices.Equal(whole(is.Conds), whole(was.Conds)) || !slices.Equal(whole(is.Actions), whole(was.Actions)) {
		t.Errorf("%s: the term that was handed in is changed: %+v", what, is)
	}
}

func wantPolicyKept(t *testing.T, what string, is, was api.Policy) {
	t.Helper()
	if is.Name != was.Name || is.Else != was.Else || len(is.Terms) != len(was.Terms) {
		t.Errorf("%s: the policy that was handed in is changed: %+v", what, is)
		return
	}
	for i := range is.Terms {
		wantTermKept(t, what, is.Terms[i], was.Terms[i])
	}
	for _, behind := range whole(is.Terms)[len(is.Terms):] {
		if !reflect.DeepEqual(behind, termMark) {
			t.Errorf("%s: the room behind the terms is changed: %+v", what, behind)
		}
	}
}

func wantSetsKept(t *testing.T, what string, is, was []api.Set) {
	t.Helper()
	was = roomySets(was)
	if len(whole(is)) != len(whole(was)) {
		t.Fatalf("%s: other room", what)
	}
	for i, s := range whole(is) {
		o := whole(was)[i]
		same := s.Name == o.Name && s.Kind == o.Kind && slices.Equal(whole(s.Items), whole(o.Items)) && slices.Equal(whole(s.Comms), whole(o.Comms))
		if !same || !slices.EqualFunc(whole(s.Paths), whole(o.Paths), func(a, b []api.Atom) bool { return slices.Equal(whole(a), whole(b)) }) {
			t.Errorf("%s: the set %d that was handed in is changed: %+v, was %+v", what, i, s, o)
		}
	}
}

// spoilSet changes all that a set's lists hold, and the room behind their ends.
func spoilSet(s api.Set) {
	for _, l := range whole(s.Paths) {
		for i := range whole(l) {
			whole(l)[i] = api.Atom{Kind: 99, AS: 99}
		}
	}
	for i := range whole(s.Paths) {
		whole(s.Paths)[i] = []api.Atom{{Kind: 98}}
	}
	for i := range whole(s.Items) {
		whole(s.Items)[i] = api.Item{Low: 99}
	}
	for i := range whole(s.Comms) {
		whole(s.Comms)[i] = 99
	}
}

func sameSet(a, b api.Set) bool {
	return a.Name == b.Name && a.Kind == b.Kind && slices.Equal(a.Items, b.Items) && slices.Equal(a.Comms, b.Comms) && slices.EqualFunc(a.Paths, b.Paths, slices.Equal)
}

func sameTerm(a, b api.Term) bool {
	return slices.Equal(a.Conds, b.Conds) && slices.Equal(a.Actions, b.Actions)
}

func sameProgram(a, b api.Program) bool {
	return slices.Equal(a.Ins, b.Ins) && slices.EqualFunc(a.Sets, b.Sets, sameSet)
}

func wantCheck(t *testing.T, p api.Policy, l []api.Set, want api.Errno) {
	t.Helper()
	in, with := roomyPolicy(p), roomySets(l)
	if err := polc.Check(in, with); err != want {
		t.Errorf("Check(%.300s, %.300s): %d, want %d", fmt.Sprint(p), fmt.Sprint(l), err, want)
	}
	wantPolicyKept(t, "Check", in, p)
	wantSetsKept(t, "Check", with, l)
}

// wantRefused is what both Check and Compile must say of it.
func wantRefused(t *testing.T, p api.Policy, l []api.Set, want api.Errno) {
	t.Helper()
	wantCheck(t, p, l, want)
	in, with := roomyPolicy(p), roomySets(l)
	if x, err := polc.Compile(in, with); err != want || len(x.Ins) != 0 || len(x.Sets) != 0 {
		t.Errorf("Compile(%.300s, %.300s): %+v, %d, want %d", fmt.Sprint(p), fmt.Sprint(l), x, err, want)
	}
	wantPolicyKept(t, "Compile", in, p)
	wantSetsKept(t, "Compile", with, l)
}

// wantProgram compiles, spoils what was answered, and looks whether all else stays as it was.
func wantProgram(t *testing.T, p api.Policy, l []api.Set, want api.Program) {
	t.Helper()
	in, with := roomyPolicy(p), roomySets(l)
	x, err := polc.Compile(in, with)
	again, _ := polc.Compile(in, with)
	if err != api.OK || !sameProgram(x, want) {
		t.Errorf("Compile(%.300s, %.300s): %+v, %d, want %+v", fmt.Sprint(p), fmt.Sprint(l), x, err, want)
	}
	for i := range whole(x.Ins) {
		whole(x.Ins)[i] = api.Ins{Kind: 99}
	}
	for i, s := range x.Sets {
		spoilSet(s)
		for k := i + 1; k < len(x.Sets); k++ {
			if !sameSet(x.Sets[k], want.Sets[k]) {
				t.Errorf("the sets %d and %d of one program share memory", i, k)
			}
		}
	}
	for i := range whole(x.Sets) {
		whole(x.Sets)[i] = setMark
	}
	if !sameProgram(again, want) {
		t.Errorf("two programs share memory")
	}
	wantPolicyKept(t, "Compile", in, p)
	wantSetsKept(t, "Compile", with, l)
}

// wantText asks for a text, of a term that comes back from it.
func wantText(t *testing.T, x api.Term, want string) {
	t.Helper()
	in := roomyTerm(x)
	if s, err := polc.TermText(in); err != api.OK || s != want {
		t.Errorf("TermText(%+v): %q, %d, want %q", x, s, err, want)
	}
	wantTermKept(t, "TermText", in, x)
	wantTerm(t, want, x)
}

func wantNoText(t *testing.T, x api.Term) {
	t.Helper()
	in := roomyTerm(x)
	if s, err := polc.TermText(in); err != api.ErrArg || s != "" {
		t.Errorf("TermText(%.300s): %q, %d, want ErrArg", fmt.Sprint(x), s, err)
	}
	wantTermKept(t, "TermText", in, x)
}

// wantTerm reads a text twice: what the first call answers is spoiled ahead of the second one.
func wantTerm(t *testing.T, s string, want api.Term) {
	t.Helper()
	for range 2 {
		x, err := polc.Term(s)
		if err != nil || !sameTerm(x, want) {
			t.Errorf("Term(%q): %+v, %v, want %+v", s, x, err, want)
		}
		for i := range whole(x.Conds) {
			whole(x.Conds)[i] = condMark
		}
		for i := range whole(x.Actions) {
			whole(x.Actions)[i] = actionMark
		}
	}
}

// wantNoTerm looks for the fault, and for nothing beside it.
func wantNoTerm(t *testing.T, s string) {
	t.Helper()
	x, err := polc.Term(s)
	if len(x.Conds) != 0 || len(x.Actions) != 0 {
		t.Errorf("Term(%.300q): %+v beside %v", s, x, err)
	}
	var f *api.Fault
	if !errors.As(err, &f) || f == nil || f.Code != api.ErrLine || f.At != 0 {
		t.Errorf("Term(%.300q): %+v, want a fault with ErrLine", s, err)
		return
	}
	for e := api.Errno(-1); e <= 12; e++ {
		if errors.Is(err, e) != (e == api.ErrLine) {
			t.Errorf("Term(%.300q): errors.Is(.., %d) is %v", s, e, errors.Is(err, e))
		}
	}
}
