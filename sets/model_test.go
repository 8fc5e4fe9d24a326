package sets_test

import (
	"math"
	"reflect"
	"regexp"
	"slices"
	"strconv"
	"strings"
	"testing"

	"herald/api"
	"herald/sets"
)

// most is how many items, communities, patterns, and atoms of a pattern there may be, as the document writes it.
const most = 64

// bits are those of each family's addresses.
var bits = map[int]int{api.V4: 32, api.V6: 128, api.L4: 32, api.Vpn4: 32, api.Vpn6: 128}

// kinds are those of sets; the numbers that are none have the lowest bits of some that are.
var (
	kinds    = []int{api.SetPrefix, api.SetComm, api.SetPath}
	noKinds  = []int{math.MinInt, math.MinInt + 1, math.MinInt32, -1 << 32, -255, -3, -2, -1, 0, 4, 5, 7, 8, 255, 256, 257, 259, 1<<16 + 1, 1 << 31, 1<<32 + 1, 1<<32 + 3, math.MaxInt32, math.MaxInt}
	names    = []string{"a", "z", "a-", "a--", "a-0", "a0", "a9z", "as-path-7", "a23456789012345", "a234567890123456", "z---------------", "zzzzzzzzzzzzzzzz"}
	notNames = []string{"", "A", "Z", "1", "1a", "9", "-", "-a", "_", "aA", "aZb", "a_", "a.b", "a b", "a ", " a", "a\n", "\na", "a\x00", "\x00", "\x00a", "a/", "a:", "a`", "`a", "a{", "{a", "a@", "a[", "a,", "\xe4", "a\xe4", "ä", "aä", "ａ", "a\xff", "a\x80", "a\xad", "\xe1", "a234567890123456-", "a2345678901234567", "zzzzzzzzzzzzzzzzz", strings.Repeat("a", 256), strings.Repeat("a", 257), strings.Repeat("a", 1<<17), strings.Repeat("a", 15) + "A", strings.Repeat("a", 15) + "\xff"}
)

// wrongAtoms may not be: those of a kind with the AS of another one, and those of no kind.
func wrongAtoms() []api.Atom {
	l := []api.Atom{{Kind: api.AtomAS}, {Kind: api.AtomAny, AS: 1}, {Kind: api.AtomMany, AS: 1}, {Kind: api.AtomAny, AS: 1 << 31}, {Kind: api.AtomMany, AS: 1 << 31}, {Kind: api.AtomAny, AS: math.MaxUint32}, {Kind: api.AtomMany, AS: math.MaxUint32}}
	for _, kind := range noKinds {
		l = append(l, api.Atom{Kind: kind}, api.Atom{Kind: kind, AS: 1}, api.Atom{Kind: kind, AS: math.MaxUint32})
	}
	return l
}

// as is an atom of an AS; one and many are the other two.
func as(n uint32) api.Atom { return api.Atom{Kind: api.AtomAS, AS: n} }

var one, many = api.Atom{Kind: api.AtomAny}, api.Atom{Kind: api.AtomMany}

// pat lays a pattern by its words, so that no test hangs on Parse alone.
func pat(text string) []api.Atom {
	var l []api.Atom
	for _, word := range strings.Fields(text) {
		switch n, err := strconv.ParseUint(word, 10, 32); {
		case word == ".":
			l = append(l, one)
		case word == "*":
			l = append(l, many)
		case err == nil:
			l = append(l, as(uint32(n)))
		}
	}
	return l
}

// asList lays a list of ASs by their numbers.
func asList(text string) []uint32 {
	var l []uint32
	for _, word := range strings.Fields(text) {
		n, _ := strconv.ParseUint(word, 10, 32)
		l = append(l, uint32(n))
	}
	return l
}

// pre is a prefix of a family, of these bytes and as many noughts as are missing.
func pre(fam int, ahead string, n int) api.Prefix {
	return api.Prefix{Fam: fam, Addr: ahead + strings.Repeat("\x00", bits[fam]/8-len(ahead)), Len: n}
}

func withRD(p api.Prefix, rd uint64) api.Prefix {
	p.RD = rd
	return p
}

func item(p api.Prefix, low, high int) api.Item { return api.Item{Prefix: p, Low: low, High: high} }

func prefixSet(l ...api.Item) api.Set { return api.Set{Name: "s", Kind: api.SetPrefix, Items: l} }
func commSet(l ...uint32) api.Set     { return api.Set{Name: "s", Kind: api.SetComm, Comms: l} }
func pathSet(l ...[]api.Atom) api.Set { return api.Set{Name: "s", Kind: api.SetPath, Paths: l} }

// repeat is a list of n times the same.
func repeat[T any](x T, n int) []T {
	l := make([]T, n)
	for i := range l {
		l[i] = x
	}
	return l
}

// count is a rising list of n numbers.
func count(n int) []uint32 {
	l := make([]uint32, n)
	for i := range l {
		l[i] = uint32(i) * 5
	}
	return l
}

var nameForm = regexp.MustCompile(`\A[a-z][a-z0-9-]{0,15}\z`)

// bitText is an address as a text of its bits.
func bitText(addr string) string {
	var b strings.Builder
	for i := 0; i < len(addr); i++ {
		t := strconv.FormatUint(uint64(addr[i]), 2)
		b.WriteString(strings.Repeat("0", 8-len(t)) + t)
	}
	return b.String()
}

func rightPrefix(p api.Prefix) bool {
	n, known := bits[p.Fam]
	if !known || 8*len(p.Addr) != n || p.Len < 0 || p.Len > n {
		return false
	}
	if p.RD != 0 && p.Fam != api.Vpn4 && p.Fam != api.Vpn6 {
		return false
	}
	return !strings.Contains(bitText(p.Addr)[p.Len:], "1")
}

func rightAtom(a api.Atom) bool {
	return a.Kind == 1 && a.AS > 0 || (a.Kind == 2 || a.Kind == 3) && a.AS == 0
}

func rightPattern(l []api.Atom) bool {
	for _, a := range l {
		if !rightAtom(a) {
			return false
		}
	}
	return len(l) <= most
}

// rightSet is the model of which sets may be: each thing that is wrong is looked for by itself.
func rightSet(s api.Set) bool {
	if !nameForm.MatchString(s.Name) || !slices.Contains(kinds, s.Kind) {
		return false
	}
	for kind, n := range map[int]int{1: len(s.Items), 2: len(s.Comms), 3: len(s.Paths)} {
		if n > most || n > 0 && kind != s.Kind {
			return false
		}
	}
	for _, x := range s.Items {
		if !rightPrefix(x.Prefix) || x.Low < x.Prefix.Len || x.High < x.Low || x.High > bits[x.Prefix.Fam] {
			return false
		}
	}
	for i, c := range s.Comms {
		for _, ahead := range s.Comms[:i] {
			if ahead >= c {
				return false
			}
		}
	}
	for _, p := range s.Paths {
		if !rightPattern(p) {
			return false
		}
	}
	return true
}

// inPrefixSet, inCommSet, inPathSet are the models of what a set has.
func inPrefixSet(s api.Set, p api.Prefix) bool {
	if !rightSet(s) || s.Kind != 1 || !rightPrefix(p) {
		return false
	}
	for _, x := range s.Items {
		q := x.Prefix
		if q.Fam == p.Fam && q.RD == p.RD && strings.HasPrefix(bitText(p.Addr)[:p.Len], bitText(q.Addr)[:q.Len]) && p.Len >= x.Low && p.Len <= x.High {
			return true
		}
	}
	return false
}

func inCommSet(s api.Set, l []uint32) bool {
	has := false
	for _, c := range s.Comms {
		for _, d := range l {
			has = has || c == d
		}
	}
	return has && rightSet(s) && s.Kind == 2
}

func inPathSet(s api.Set, l []api.Seg) bool {
	var flat []uint32
	for _, seg := range l {
		for _, n := range seg.AS {
			flat = append(flat, n)
		}
	}
	has := false
	for _, p := range s.Paths {
		has = has || reaches(p, flat)
	}
	return has && rightSet(s) && s.Kind == 3
}

// reaches is the model of matching: the places that can be reached behind each atom, all at once.
func reaches(pattern []api.Atom, l []uint32) bool {
	at := make([]bool, len(l)+1)
	at[0] = true
	for _, a := range pattern {
		next := make([]bool, len(l)+1)
		for i := range at {
			switch {
			case a.Kind == 3:
				next[i] = at[i] || i > 0 && next[i-1]
			case i > 0 && (a.Kind == 2 || a.AS == l[i-1]):
				next[i] = at[i-1]
			}
		}
		at = next
	}
	return at[len(l)] && rightPattern(pattern)
}

// cuts is the document's word for word: it tries all ways to cut the list into as many pieces as there are atoms. For short ones only.
func cuts(pattern []api.Atom, l []uint32) bool {
	if len(pattern) == 0 {
		return len(l) == 0
	}
	for n := 0; n <= len(l); n++ {
		a := pattern[0]
		fits := a.Kind == 3 || n == 1 && (a.Kind == 2 || a.AS == l[0])
		if fits && cuts(pattern[1:], l[n:]) {
			return true
		}
	}
	return false
}

// lists are all lists of the elements, of up to n of them.
func lists[T any](elements []T, n int) [][]T {
	all := [][]T{nil}
	for from := 0; n > 0; n-- {
		end := len(all)
		for _, l := range all[from:end] {
			for _, x := range elements {
				all = append(all, append(slices.Clone(l), x))
			}
		}
		from = end
	}
	return all
}

// roomy is a copy of a list with room behind its end, in which there are marks; a nil list stays one.
func roomy[T any](l []T, mark T) []T {
	if l == nil {
		return nil
	}
	all := append(append(make([]T, 0, len(l)+3), l...), mark, mark, mark)
	return all[:len(l)]
}

// wantKept looks whether a list, and the room behind its end, is as roomy made it of l.
func wantKept[T any](t *testing.T, what string, is, l []T, mark T) {
	t.Helper()
	if whole := roomy(l, mark); !reflect.DeepEqual(is[:cap(is)], whole[:cap(whole)]) {
		t.Errorf("%s: what was handed in is changed: %v, was %v", what, is[:cap(is)], l)
	}
}

var (
	itemMark = api.Item{Prefix: api.Prefix{Fam: 77}, Low: 78, High: 79}
	atomMark = api.Atom{Kind: 77, AS: 78}
)

const numberMark = 0x77777777

// roomySet is a set whose lists all have room behind their ends.
func roomySet(s api.Set) api.Set {
	s.Items, s.Comms, s.Paths = roomy(s.Items, itemMark), roomy(s.Comms, numberMark), roomy(s.Paths, []api.Atom{atomMark})
	for i, p := range s.Paths {
		s.Paths[i] = roomy(p, atomMark)
	}
	return s
}

func wantSetKept(t *testing.T, what string, is, s api.Set) {
	t.Helper()
	wantKept(t, what, is.Items, s.Items, itemMark)
	wantKept(t, what, is.Comms, s.Comms, numberMark)
	wantKept(t, what, is.Paths, s.Paths, []api.Atom{atomMark})
	for i, p := range s.Paths {
		wantKept(t, what, is.Paths[i], p, atomMark)
	}
}

func wantCheck(t *testing.T, s api.Set, want api.Errno) {
	t.Helper()
	in := roomySet(s)
	if err := sets.Check(in); err != want {
		t.Errorf("Check(%+v): %d, want %d", s, err, want)
	}
	wantSetKept(t, "Check", in, s)
}

func wantPrefix(t *testing.T, s api.Set, p api.Prefix, want bool) {
	t.Helper()
	in := roomySet(s)
	if is := sets.Prefix(in, p); is != want {
		t.Errorf("Prefix(%+v, %+v): %v, want %v", s, p, is, want)
	}
	wantSetKept(t, "Prefix", in, s)
}

func wantComm(t *testing.T, s api.Set, l []uint32, want bool) {
	t.Helper()
	in, asked := roomySet(s), roomy(l, numberMark)
	if is := sets.Comm(in, asked); is != want {
		t.Errorf("Comm(%+v, %v): %v, want %v", s, l, is, want)
	}
	wantSetKept(t, "Comm", in, s)
	wantKept(t, "Comm", asked, l, numberMark)
}

func wantPath(t *testing.T, s api.Set, l []api.Seg, want bool) {
	t.Helper()
	mark := api.Seg{Kind: 77}
	in, asked := roomySet(s), roomy(l, mark)
	for i, seg := range l {
		asked[i].AS = roomy(seg.AS, numberMark)
	}
	if is := sets.Path(in, asked); is != want {
		t.Errorf("Path(%+v, %v): %v, want %v", s, l, is, want)
	}
	wantSetKept(t, "Path", in, s)
	wantKept(t, "Path", asked, l, mark)
	for i, seg := range l {
		wantKept(t, "Path", asked[i].AS, seg.AS, numberMark)
	}
}

func wantMatch(t *testing.T, pattern []api.Atom, l []uint32, want bool) {
	t.Helper()
	in, asked := roomy(pattern, atomMark), roomy(l, numberMark)
	if is := sets.Match(in, asked); is != want {
		t.Errorf("Match(%v, %v): %v, want %v", pattern, l, is, want)
	}
	wantKept(t, "Match", in, pattern, atomMark)
	wantKept(t, "Match", asked, l, numberMark)
}

func wantText(t *testing.T, pattern []api.Atom, text string, want api.Errno) {
	t.Helper()
	in := roomy(pattern, atomMark)
	if s, err := sets.Text(in); s != text || err != want {
		t.Errorf("Text(%v): %q, %d, want %q, %d", pattern, s, err, text, want)
	}
	wantKept(t, "Text", in, pattern, atomMark)
}

func wantParse(t *testing.T, s string, pattern []api.Atom, want api.Errno) {
	t.Helper()
	if l, err := sets.Parse(s); !slices.Equal(l, pattern) || err != want {
		t.Errorf("Parse(%.300q): %v, %d, want %v, %d", s, l, err, pattern, want)
	}
}

// wantFind looks for a set, which must be that one with lists of its own.
func wantFind(t *testing.T, l []api.Set, name string, want api.Set, there bool) {
	t.Helper()
	in := make([]api.Set, len(l))
	for i, s := range l {
		in[i] = roomySet(s)
	}
	s, ok := sets.Find(in, name)
	if ok != there || !sameSet(s, want) {
		t.Errorf("Find(%+v, %q): %+v, %v, want %+v, %v", l, name, s, ok, want, there)
	}
	spoil(s)
	for i := range l {
		if in[i].Name != l[i].Name || in[i].Kind != l[i].Kind {
			t.Errorf("Find(.., %q) changed the set %d", name, i)
		}
		wantSetKept(t, "Find", in[i], l[i])
	}
}

func sameSet(a, b api.Set) bool {
	return a.Name == b.Name && a.Kind == b.Kind && slices.Equal(a.Items, b.Items) && slices.Equal(a.Comms, b.Comms) && slices.EqualFunc(a.Paths, b.Paths, slices.Equal)
}

// spoil changes all that a set's lists hold, and the room behind their ends.
func spoil(s api.Set) {
	for _, p := range s.Paths[:cap(s.Paths)] {
		for i := range p[:cap(p)] {
			p[:cap(p)][i] = api.Atom{Kind: 99, AS: 99}
		}
	}
	for i := range s.Items[:cap(s.Items)] {
		s.Items[:cap(s.Items)][i] = api.Item{Low: 99}
	}
	for i := range s.Comms[:cap(s.Comms)] {
		s.Comms[:cap(s.Comms)][i] = 99
	}
	for i := range s.Paths[:cap(s.Paths)] {
		s.Paths[:cap(s.Paths)][i] = nil
	}
}
