package polvm_test

import (
	"fmt"
	"math"
	"math/rand"
	"reflect"
	"slices"
	"strconv"
	"strings"
	"testing"

	"herald/api"
	"herald/polvm"
)

// roomed is a deep copy whose lists all have room behind their ends, in which there are marks. A nil list stays one.
func roomed[T any](x T) T { return room(reflect.ValueOf(x)).Interface().(T) }

func room(v reflect.Value) reflect.Value {
	c := reflect.New(v.Type()).Elem()
	switch {
	case v.Kind() == reflect.Struct:
		for i := range v.NumField() {
			c.Field(i).Set(room(v.Field(i)))
		}
	case v.Kind() == reflect.Slice && !v.IsNil():
		n := v.Len()
		c.Set(reflect.MakeSlice(v.Type(), n+3, n+3))
		for i := range n {
			c.Index(i).Set(room(v.Index(i)))
		}
		for i := range 3 {
			mark(c.Index(n + i))
		}
		c.Set(c.Slice(0, n))
	default:
		c.Set(v)
	}
	return c
}

// mark makes a value one that no test hands in.
func mark(v reflect.Value) {
	switch v.Kind() {
	case reflect.Struct:
		for i := range v.NumField() {
			mark(v.Field(i))
		}
	case reflect.Int:
		v.SetInt(770077)
	case reflect.Uint32, reflect.Uint64:
		v.SetUint(770077)
	case reflect.String:
		v.SetString("mark")
	case reflect.Bool:
		v.SetBool(true)
	case reflect.Slice:
		v.SetZero()
	}
}

// told tells all of a value: its lists, nil and empty ones alike, and with all set the room behind their ends.
func told(x any, all bool) string { return string(tell(nil, reflect.ValueOf(x), all)) }

func tell(b []byte, v reflect.Value, all bool) []byte {
	switch v.Kind() {
	case reflect.Struct:
		b = append(b, '{')
		for i := range v.NumField() {
			b = tell(b, v.Field(i), all)
		}
		return append(b, '}')
	case reflect.Slice:
		if all && !v.IsNil() {
			v = v.Slice(0, v.Cap())
		}
		b = append(b, '[')
		for i := range v.Len() {
			b = tell(b, v.Index(i), all)
		}
		return append(b, ']')
	case reflect.String:
		return strconv.AppendQuote(b, v.String())
	case reflect.Int:
		b = strconv.AppendInt(b, v.Int(), 10)
	case reflect.Uint32, reflect.Uint64:
		b = strconv.AppendUint(b, v.Uint(), 10)
	default:
		b = strconv.AppendBool(b, v.Bool())
	}
	return append(b, ' ')
}

// spoil changes all that a value's lists hold, and the room behind their ends.
func spoil(v reflect.Value) {
	switch v.Kind() {
	case reflect.Struct:
		for i := range v.NumField() {
			spoil(v.Field(i))
		}
	case reflect.Slice:
		if v.Cap() > 0 {
			v = v.Slice(0, v.Cap())
		}
		for i := range v.Len() {
			spoil(v.Index(i))
			mark(v.Index(i))
		}
	}
}

func same(a, b any) bool { return told(a, false) == told(b, false) }

// brief shows anything in at most some bytes.
func brief(x any) string { return fmt.Sprintf("%.500s", fmt.Sprintf("%+v", x)) }

// wantKept looks whether what was handed in, and the room behind its lists, is as roomed made it.
func wantKept[T any](t *testing.T, what string, is, was T) {
	t.Helper()
	if told(is, true) != told(roomed(was), true) {
		t.Errorf("%s: what was handed in is changed: %s, was %s", what, brief(is), brief(was))
	}
}

// deep copies a route.
func deep(r api.Route) api.Route {
	a := &r.Attrs
	a.Path = slices.Clone(a.Path)
	for i, seg := range a.Path {
		a.Path[i].AS = slices.Clone(seg.AS)
	}
	a.Comms, a.Exts, a.Larges, a.Clusters = slices.Clone(a.Comms), slices.Clone(a.Exts), slices.Clone(a.Larges), slices.Clone(a.Clusters)
	return r
}

// with is a copy of a route, changed.
func with(r api.Route, change func(r *api.Route)) api.Route {
	r = deep(r)
	change(&r)
	return r
}

// pre is a prefix of a family, of these bytes and as many noughts as are missing.
func pre(fam int, ahead string, n int) api.Prefix {
	return api.Prefix{Fam: fam, Addr: ahead + strings.Repeat("\x00", bits[fam]/8-len(ahead)), Len: n}
}

func seq(l ...uint32) api.Seg     { return api.Seg{Kind: api.SegSeq, AS: l} }
func set(l ...uint32) api.Seg     { return api.Seg{Kind: api.SegSet, AS: l} }
func confSeq(l ...uint32) api.Seg { return api.Seg{Kind: api.SegConfSeq, AS: l} }
func confSet(l ...uint32) api.Seg { return api.Seg{Kind: api.SegConfSet, AS: l} }
func path(l ...api.Seg) []api.Seg { return l }

// repeat is a list of n times the same.
func repeat[T any](x T, n int) []T {
	l := make([]T, n)
	for i := range l {
		l[i] = x
	}
	return l
}

// count has n rising numbers above 0.
func count(n int) []uint32 {
	l := make([]uint32, n)
	for i := range l {
		l[i] = uint32(i)*10 + 10
	}
	return l
}

// plain is the route of the chapter's examples.
func plain() api.Route {
	return api.Route{Prefix: pre(api.V4, "\x0a", 8), Peer: "a", Attrs: api.Attrs{Path: path(seq(1, 2))}}
}

// rich is a route with all attributes.
func rich() api.Route {
	return api.Route{Prefix: api.Prefix{Fam: api.Vpn4, RD: 7, Addr: "\x0a\x01\x00\x00", Len: 16}, Peer: "b", Attrs: api.Attrs{
		Origin: 1, Path: path(seq(3, 70000), set(5, 4), confSeq(6), confSet(7, 8)), Next: "\x0a\x00\x00\x07", HasMed: true, Med: 5, HasPref: true, Pref: 6,
		Atomic: true, AggAS: 9, AggId: 10, Comms: []uint32{1, 5, api.NoExport}, Exts: []uint64{1, 1 << 40}, Larges: []api.Large{{Global: 1, A: 2, B: 3}, {Global: 1, A: 2, B: 4}},
		HasOrig: true, Orig: 11, Clusters: []uint32{9, 8, 9},
	}}
}

// greatest is a route with the most of all.
func greatest() api.Route {
	r := rich()
	r.Prefix = api.Prefix{Fam: api.Vpn6, RD: math.MaxUint64, Addr: strings.Repeat("\xff", 16), Len: 128}
	r.Peer = "zzzzzzzzzzzzzzzz"
	r.Attrs.Path = nil
	for i := range 16 {
		r.Attrs.Path = append(r.Attrs.Path, api.Seg{Kind: 1 + (i+1)%4, AS: count(255)})
	}
	r.Attrs.Comms, r.Attrs.Clusters, r.Attrs.Exts, r.Attrs.Larges = count(most), count(32), nil, nil
	for i := range most {
		r.Attrs.Exts, r.Attrs.Larges = append(r.Attrs.Exts, uint64(i)), append(r.Attrs.Larges, api.Large{B: uint32(i)})
	}
	return r
}

// routes may be.
func routes() []api.Route {
	l := []api.Route{plain(), rich(), greatest(), {Prefix: pre(api.V4, "", 0)}}
	for fam := range bits {
		l = append(l, with(rich(), func(r *api.Route) { r.Prefix = pre(fam, "\x0a\x01", 16) }))
	}
	for _, name := range names {
		l = append(l, with(plain(), func(r *api.Route) { r.Peer = name }))
	}
	return l
}

// wrongRoutes are routes that may not be, each for a reason of its own.
func wrongRoutes() []api.Route {
	l := []api.Route{{}}
	for _, change := range []func(r *api.Route){
		func(r *api.Route) { r.Prefix = api.Prefix{} },
		func(r *api.Route) { r.Prefix.Fam = 0 },
		func(r *api.Route) { r.Prefix.Fam = 6 },
		func(r *api.Route) { r.Prefix.Fam = -1 },
		func(r *api.Route) { r.Prefix.Fam = 1<<32 + 1 },
		func(r *api.Route) { r.Prefix.Fam = math.MinInt },
		func(r *api.Route) { r.Prefix.Fam = api.V6 },
		func(r *api.Route) { r.Prefix.Fam, r.Prefix.RD = api.V4, 1 },
		func(r *api.Route) { r.Prefix.Fam, r.Prefix.RD = api.L4, 1<<63 },
		func(r *api.Route) { r.Prefix.Addr = "" },
		func(r *api.Route) { r.Prefix.Addr = "\x0a\x00\x00" },
		func(r *api.Route) { r.Prefix.Addr = "\x0a\x00\x00\x01" },
		func(r *api.Route) { r.Prefix.Addr += "\x00" },
		func(r *api.Route) { r.Prefix.Len = -1 },
		func(r *api.Route) { r.Prefix.Len = 6 },
		func(r *api.Route) { r.Prefix.Len = 33 },
		func(r *api.Route) { r.Prefix.Len = math.MaxInt },
		func(r *api.Route) { r.Prefix.Len = math.MinInt },
		func(r *api.Route) { r.Attrs.Origin = 3 },
		func(r *api.Route) { r.Attrs.Origin = -1 },
		func(r *api.Route) { r.Attrs.Path = path(seq()) },
		func(r *api.Route) { r.Attrs.Path = path(seq(1), set(2, 0)) },
		func(r *api.Route) { r.Attrs.Path = path(api.Seg{Kind: 5, AS: []uint32{1}}) },
		func(r *api.Route) { r.Attrs.Path = path(seq(count(256)...)) },
		func(r *api.Route) { r.Attrs.Path = repeat(seq(1), 17) },
		func(r *api.Route) { r.Attrs.Next = "abc" },
		func(r *api.Route) { r.Attrs.HasMed, r.Attrs.Med = false, 1 },
		func(r *api.Route) { r.Attrs.HasPref, r.Attrs.Pref = false, 1 },
		func(r *api.Route) { r.Attrs.HasOrig, r.Attrs.Orig = false, 1 },
		func(r *api.Route) { r.Attrs.AggAS, r.Attrs.AggId = 0, 1 },
		func(r *api.Route) { r.Attrs.Comms = []uint32{2, 1} },
		func(r *api.Route) { r.Attrs.Comms = []uint32{1, 1} },
		func(r *api.Route) { r.Attrs.Comms = count(most + 1) },
		func(r *api.Route) { r.Attrs.Exts = []uint64{2, 1} },
		func(r *api.Route) { r.Attrs.Larges = []api.Large{{A: 1}, {A: 1}} },
		func(r *api.Route) { r.Attrs.Clusters = count(33) },
	} {
		l = append(l, with(plain(), change), with(rich(), change))
	}
	for _, name := range notNames {
		l = append(l, with(plain(), func(r *api.Route) { r.Peer = name }), with(rich(), func(r *api.Route) { r.Peer = name }))
	}
	return l
}

// Sets of each kind, that may be.
func prefixSet(name string, l ...api.Item) api.Set {
	return api.Set{Name: name, Kind: api.SetPrefix, Items: l}
}

func commSet(name string, l ...uint32) api.Set {
	return api.Set{Name: name, Kind: api.SetComm, Comms: l}
}

func pathSet(name string, l ...[]api.Atom) api.Set {
	return api.Set{Name: name, Kind: api.SetPath, Paths: l}
}

// setOf is a set of that kind that has what plain has.
func setOf(name string, kind int) api.Set {
	switch kind {
	case api.SetPrefix:
		return prefixSet(name, api.Item{Prefix: pre(api.V4, "\x0a", 8), Low: 8, High: 16})
	case api.SetComm:
		return commSet(name, 1, 5)
	}
	return pathSet(name, nil, pat("1 *"))
}

// pat lays a pattern by its words.
func pat(text string) []api.Atom {
	var l []api.Atom
	for _, word := range strings.Fields(text) {
		n, _ := strconv.Atoi(word)
		l = append(l, map[string]api.Atom{".": {Kind: api.AtomAny}, "*": {Kind: api.AtomMany}, strconv.Itoa(n): {Kind: api.AtomAS, AS: uint32(n)}}[word])
	}
	return l
}

// wrongSets may not be, each for a reason of its own.
func wrongSets(name string) []api.Set {
	both := setOf(name, api.SetComm)
	both.Items = setOf(name, api.SetPrefix).Items
	item := api.Item{Prefix: pre(api.V4, "\x0a", 8), Low: 8, High: 33}
	return []api.Set{{}, {Name: name}, {Name: name, Kind: 4}, {Name: name, Kind: -1}, {Name: name, Kind: 1<<32 + 2}, both,
		prefixSet(name, item), commSet(name, 2, 1), commSet(name, 1, 1), commSet(name, count(most+1)...), pathSet(name, []api.Atom{{Kind: api.AtomAny, AS: 1}}),
		pathSet(name, repeat(pat("1"), most+1)...), commSet(""), commSet("A"), commSet("1"), commSet("a234567890123456-")}
}

// wrongTogether are lists of sets that may not be together, each around a set s of communities.
func wrongTogether() [][]api.Set {
	s := setOf("s", api.SetComm)
	var l [][]api.Set
	for _, x := range wrongSets("x") {
		l = append(l, []api.Set{x}, []api.Set{x, s}, []api.Set{s, x}, []api.Set{s, pathSet("t"), x, prefixSet("u")})
	}
	for kind := 1; kind <= 3; kind++ {
		l = append(l, []api.Set{s, setOf("s", kind)}, []api.Set{setOf("x", kind), s, prefixSet("u"), pathSet("x")})
	}
	return append(l, []api.Set{s, s, s})
}

// Conditions, actions and instructions.
func cond(kind int, name string) api.Cond { return api.Cond{Kind: kind, Name: name} }
func number(kind, n int) api.Cond         { return api.Cond{Kind: kind, N: n} }

func not(c api.Cond) api.Cond {
	c.Not = !c.Not
	return c
}

func do(kind int, n uint32) api.Action { return api.Action{Kind: kind, N: n} }
func del(name string) api.Action       { return api.Action{Kind: api.DoDel, Name: name} }
func next(addr string) api.Action      { return api.Action{Kind: api.DoNext, Addr: addr} }
func match(c api.Cond, to int) api.Ins { return api.Ins{Kind: api.InsMatch, Cond: c, To: to} }
func act(a api.Action) api.Ins         { return api.Ins{Kind: api.InsAct, Act: a} }
func end(n int) api.Ins                { return api.Ins{Kind: api.InsEnd, N: n} }
func program(l ...api.Ins) api.Program { return api.Program{Ins: l} }
func pref(n uint32) api.Ins            { return act(do(api.DoPref, n)) }
func sets(l ...api.Set) []api.Set      { return l }
func put(p api.Program, l ...api.Set) api.Program {
	p.Sets = l
	return p
}

var accept, reject, noMed = do(api.DoAccept, 0), do(api.DoReject, 0), do(api.DoNoMed, 0)

// Conditions of which the first one holds for each route, the second one for none.
var yes, no = number(api.IfLength, 65535), not(number(api.IfLength, 65535))

// condsOf has conditions at the edges: those that may be, and those that may not.
func condsOf() []api.Cond {
	var l []api.Cond
	for _, kind := range append([]int{1, 2, 3, 4, 5, 6, 7, 8}, noKinds...) {
		for _, name := range slices.Concat([]string{"", "s"}, names, notNames) {
			for _, n := range edges {
				c := api.Cond{Kind: kind, Name: name, N: n}
				// Of names that are none, all with one number are enough; else there would be too many.
				if n == 0 || name == "" || name == "s" {
					l = append(l, c, not(c))
				}
			}
		}
	}
	return l
}

// actionsOf has actions at the edges: those that may be, and those that may not.
func actionsOf() []api.Action {
	var l []api.Action
	for _, kind := range append([]int{1, 2, 3, 4, 5, 6, 7, 8, 9, 10}, noKinds...) {
		for _, name := range slices.Concat([]string{"", "s"}, names, notNames) {
			l = append(l, api.Action{Kind: kind, Name: name}, api.Action{Kind: kind, Name: name, N: 1}, api.Action{Kind: kind, Name: name, Addr: addrs[0]})
		}
		for _, addr := range slices.Concat([]string{""}, addrs, notAddrs) {
			for _, n := range edges32 {
				l = append(l, api.Action{Kind: kind, N: n, Addr: addr})
			}
		}
	}
	return l
}

// wantHolds asks a condition, and the same one turned by Not: it must be the other way round, or the same error.
func wantHolds(t *testing.T, c api.Cond, l []api.Set, r api.Route, want bool, wantErr api.Errno) {
	t.Helper()
	for _, turn := range []bool{false, true} {
		inSets, inRoute := roomed(l), roomed(r)
		asked, wanted := c, want
		if turn {
			asked, wanted = not(c), !want && wantErr == api.OK
		}
		if is, err := polvm.Holds(asked, inSets, inRoute); is != wanted || err != wantErr {
			t.Errorf("Holds(%s, %s, %s): %v, %d, want %v, %d", brief(asked), brief(l), brief(r), is, err, wanted, wantErr)
		}
		wantKept(t, "Holds", inSets, l)
		wantKept(t, "Holds", inRoute, r)
	}
}

// wantAct does an action twice: what the first call answers is spoiled ahead of the second one.
func wantAct(t *testing.T, a api.Action, l []api.Set, as uint32, r, want api.Route, wantErr api.Errno) {
	t.Helper()
	inSets, inRoute := roomed(l), roomed(r)
	first, _ := polvm.Act(a, inSets, as, inRoute)
	got, err := polvm.Act(a, inSets, as, inRoute)
	spoil(reflect.ValueOf(first))
	if err != wantErr || !same(got, want) {
		t.Errorf("Act(%s, %s, %d, %s): %s, %d, want %s, %d", brief(a), brief(l), as, brief(r), brief(got), err, brief(want), wantErr)
	}
	if err == api.OK && (!rightRoute(got) || got.Prefix != r.Prefix || got.Peer != r.Peer) {
		t.Errorf("Act(%s, .., %s): %s may not be", brief(a), brief(r), brief(got))
	}
	wantKept(t, "Act", inSets, l)
	wantKept(t, "Act", inRoute, r)
}

// wantRun runs twice: what the first call answers is spoiled ahead of the second one.
func wantRun(t *testing.T, p api.Program, as uint32, r api.Route, want api.Attrs, is bool, wantErr api.Errno) {
	t.Helper()
	inProgram, inRoute := roomed(p), roomed(r)
	first, _, _ := polvm.Run(inProgram, as, inRoute)
	got, ok, err := polvm.Run(inProgram, as, inRoute)
	spoil(reflect.ValueOf(first))
	if err != wantErr || ok != is || !same(got, want) {
		t.Errorf("Run(%s, %d, %s): %s, %v, %d, want %s, %v, %d", brief(p), as, brief(r), brief(got), ok, err, brief(want), is, wantErr)
	}
	if ok && !rightAttrs(got) {
		t.Errorf("Run(%s, %d, %s): %s may not be", brief(p), as, brief(r), brief(got))
	}
	wantKept(t, "Run", inProgram, p)
	wantKept(t, "Run", inRoute, r)
}

// wantAccepted and wantRejected are what comes of a program for plain.
func wantAccepted(t *testing.T, p api.Program, change func(a *api.Attrs)) {
	t.Helper()
	want := plain().Attrs
	if change != nil {
		change(&want)
	}
	wantRun(t, p, 65000, plain(), want, true, api.OK)
}

func wantRejected(t *testing.T, p api.Program) {
	t.Helper()
	wantRun(t, p, 65000, plain(), api.Attrs{}, false, api.OK)
}

// wantCheck is what Check must say, and with an error Run too, ahead of what is wrong with the route.
func wantCheck(t *testing.T, p api.Program, want api.Errno) {
	t.Helper()
	in := roomed(p)
	if err := polvm.Check(in); err != want {
		t.Errorf("Check(%s): %d, want %d", brief(p), err, want)
	}
	wantKept(t, "Check", in, p)
	bad := with(plain(), func(r *api.Route) { r.Peer = "A" })
	if want == api.OK {
		wantRun(t, p, 1, bad, api.Attrs{}, false, api.ErrArg)
		return
	}
	wantRun(t, p, 1, plain(), api.Attrs{}, false, want)
	wantRun(t, p, 0, bad, api.Attrs{}, false, want)
}

// Few names, prefixes, communities and ASs, so that much meets in what is made of them.
var fewNames = []string{"a", "b", "c", "d"}

func one[T any](r *rand.Rand, l []T) T { return l[r.Intn(len(l))] }

// some are numbers below n, rising, each once.
func some(r *rand.Rand, n int) []uint32 {
	var l []uint32
	for i := range n {
		if r.Intn(3) == 0 {
			l = append(l, uint32(i))
		}
	}
	return l
}

// randomSets are sets of some of the few names that may be together.
func randomSets(r *rand.Rand) []api.Set {
	var l []api.Set
	for _, i := range r.Perm(len(fewNames)) {
		if r.Intn(12) == 0 {
			continue
		}
		s := api.Set{Name: fewNames[i], Kind: []int{2, 1, 3, 2}[i]}
		if r.Intn(12) == 0 {
			s.Kind = 1 + r.Intn(3)
		}
		for range r.Intn(4) {
			switch s.Kind {
			case api.SetPrefix:
				p := randomPrefix(r)
				low := p.Len + r.Intn(3)
				if high := low + r.Intn(5); high <= bits[p.Fam] {
					s.Items = append(s.Items, api.Item{Prefix: p, Low: low, High: high})
				}
			case api.SetComm:
				s.Comms = some(r, 6)
			case api.SetPath:
				s.Paths = append(s.Paths, pat(one(r, []string{"", "*", "1 *", "* 2", ". .", "* 1 . *", "65000 *", "1 2", "* 3 *"})))
			}
		}
		l = append(l, s)
	}
	return l
}

func randomPrefix(r *rand.Rand) api.Prefix {
	p := pre(one(r, []int{1, 1, 1, 2, 3, 4, 5}), one(r, []string{"\x0a", "\x0a\x80", "\x0b"}), 9+r.Intn(4))
	if p.Fam >= api.Vpn4 {
		p.RD = uint64(r.Intn(2))
	}
	return p
}

func randomRoute(r *rand.Rand) api.Route {
	x := api.Route{Prefix: randomPrefix(r), Peer: one(r, append(fewNames, ""))}
	x.Attrs = one(r, []api.Attrs{{}, rich().Attrs})
	x.Attrs.Origin, x.Attrs.Comms, x.Attrs.Path = r.Intn(3), some(r, 6), nil
	if r.Intn(8) == 0 {
		x.Attrs.Comms = count(one(r, []int{62, 63, 64}))
	}
	for range one(r, []int{0, 1, 1, 1, 2, 3, 15, 16}) {
		seg := api.Seg{Kind: one(r, []int{1, 2, 2, 2, 3, 4})}
		for range one(r, []int{1, 1, 1, 2, 2, 2, 2, 3, 3, 3, 3, 251, 255}) {
			seg.AS = append(seg.AS, 1+uint32(r.Intn(3)))
		}
		x.Attrs.Path = append(x.Attrs.Path, seg)
	}
	return x
}

// randomCond is a condition that mostly holds for something, and that mostly asks a set that is there.
func randomCond(r *rand.Rand) api.Cond {
	kind := 1 + r.Intn(7)
	c := api.Cond{Kind: kind, Not: r.Intn(3) == 0}
	switch kind {
	case 1, 2, 3:
		c.Name = []string{"b", "a", "c"}[kind-1]
		if kind == 2 && r.Intn(2) == 0 {
			c.Name = "d"
		}
		if r.Intn(40) == 0 {
			c.Name = one(r, fewNames)
		}
	case 4:
		c.Name = one(r, fewNames)
	case 5:
		c.N = r.Intn(3)
	case 6:
		c.N = one(r, []int{0, 1, 2, 3, 4, 5, 255, 65535})
	case 7:
		c.N = one(r, []int{1, 1, 1, 2, 3, 4, 5})
	}
	return c
}

// randomAction is an action other than DoAccept and DoReject.
func randomAction(r *rand.Rand) api.Action {
	a := api.Action{Kind: 3 + r.Intn(8)}
	switch a.Kind {
	case api.DoPref, api.DoMed:
		a.N = one(r, edges32)
	case api.DoAdd:
		a.N = uint32(r.Intn(6))
	case api.DoDel:
		a.Name = one(r, []string{"a", "d"})
	case api.DoPrepend:
		a.N = 1 + uint32(r.Intn(8))
	case api.DoNext:
		a.Addr = one(r, addrs)
	case api.DoOrigin:
		a.N = uint32(r.Intn(3))
	}
	return a
}
