package aspath_test

import (
	"math"
	"slices"
	"testing"

	"herald/api"
	"herald/aspath"
)

// anyPaths has paths that may be, and others.
func anyPaths() [][]api.Seg { return slices.Concat(pool(), wrong(), small()) }

// asked are ASs near the edges, and some that the paths have.
var asked = []uint32{0, 1, 2, 7, 255, 256, 23456, 65535, 65536, 70000, 1 << 31, math.MaxUint32}

func wantSegs(t *testing.T, what string, got, want []api.Seg) {
	t.Helper()
	if !same(got, want) {
		t.Errorf("%s: %s, not %s", what, brief(got), brief(want))
	}
}

// brief shows a path in at most some bytes.
func brief(l []api.Seg) string {
	s := show(l)
	if len(s) > 200 {
		s = s[:200] + ".."
	}
	return s
}

func TestP4_1Examples(t *testing.T) {
	l := path(seq(1, 2), set(3, 4), confSeq(5))
	if n := aspath.Length(l); n != 3 {
		t.Errorf("Length: %d", n)
	}
	if as, ok := aspath.First(l); as != 1 || !ok {
		t.Errorf("First: %d, %t", as, ok)
	}
	if f := aspath.Flat(l); !slices.Equal(f, []uint32{1, 2, 3, 4, 5}) {
		t.Errorf("Flat: %d", f)
	}
	wantSegs(t, "Bare", aspath.Bare(l), path(seq(1, 2), set(3, 4)))
	if as, ok := aspath.First(path(confSeq(5), seq(1))); as != 1 || !ok {
		t.Errorf("First behind a confederation's: %d, %t", as, ok)
	}
	for _, l := range [][]api.Seg{path(set(1), seq(2)), nil, {}, path(seq())} {
		if as, ok := aspath.First(l); as != 0 || ok {
			t.Errorf("First(%s): %d, %t", show(l), as, ok)
		}
	}
}

func TestP4_1Check(t *testing.T) {
	for _, l := range pool() {
		if e := aspath.Check(l); e != api.OK {
			t.Errorf("Check(%s): %d", brief(l), e)
		}
	}
	for _, l := range wrong() {
		if e := aspath.Check(l); e != api.ErrArg {
			t.Errorf("Check(%s): %d", brief(l), e)
		}
	}
	for _, l := range small() {
		if e := aspath.Check(l); (e == api.OK) != mayBe(l) || e != api.OK && e != api.ErrArg {
			t.Errorf("Check(%s): %d", brief(l), e)
		}
	}
}

// TestP4_1Tells asks any segments, whether they may be or not.
func TestP4_1Tells(t *testing.T) {
	for _, l := range anyPaths() {
		if n := aspath.Length(l); n != length(l) {
			t.Errorf("Length(%s): %d, not %d", brief(l), n, length(l))
		}
		want, wantOk := first(l)
		if as, ok := aspath.First(l); as != want || ok != wantOk {
			t.Errorf("First(%s): %d, %t, not %d, %t", brief(l), as, ok, want, wantOk)
		}
		if f := aspath.Flat(l); !slices.Equal(f, flat(l)) {
			t.Errorf("Flat(%s): %d", brief(l), f)
		}
		wantSegs(t, "Bare", aspath.Bare(l), bare(l))
	}
}

func TestP4_1FirstIsAnyNumber(t *testing.T) {
	for _, as := range asked {
		if got, ok := aspath.First(path(confSet(), confSeq(3), seq(as, 5))); got != as || !ok {
			t.Errorf("First of %d: %d, %t", as, got, ok)
		}
	}
}

// TestP4_1FirstOfNoKind: what is no kind is neither of a confederation nor a sequence.
func TestP4_1FirstOfNoKind(t *testing.T) {
	for _, kind := range []int{math.MinInt, -1, 0, 5, 258, math.MaxInt} {
		if as, ok := aspath.First(path(confSeq(1), api.Seg{Kind: kind, AS: []uint32{2}}, seq(3))); as != 0 || ok {
			t.Errorf("First behind kind %d: %d, %t", kind, as, ok)
		}
	}
}

func TestP4_1Has(t *testing.T) {
	for _, l := range anyPaths() {
		for _, as := range asked {
			if has := aspath.Has(l, as); has != slices.Contains(flat(l), as) {
				t.Errorf("Has(%s, %d): %t", brief(l), as, has)
			}
		}
	}
	for kind := -1; kind <= 6; kind++ {
		l := path(seq(1), api.Seg{Kind: kind, AS: some(255)}, seq(2))
		for _, as := range some(255) {
			if !aspath.Has(l, as) {
				t.Errorf("Has of kind %d: not %d", kind, as)
			}
		}
		if aspath.Has(l, 3) {
			t.Errorf("Has of kind %d: 3", kind)
		}
	}
}

func TestP4_1Same(t *testing.T) {
	var l [][]api.Seg
	for i, p := range small() {
		if i < 31 || i%97 == 0 {
			l = append(l, p)
		}
	}
	l = append(l, pool()...)
	l = append(l, wrong()...)
	texts := make([]string, len(l))
	for i := range l {
		texts[i] = show(l[i])
	}
	for i, a := range l {
		for k, b := range l {
			if is := aspath.Same(a, b); is != (texts[i] == texts[k]) {
				t.Errorf("Same(%s, %s): %t", brief(a), brief(b), is)
			}
		}
	}
}

func TestP4_1SameAsksAll(t *testing.T) {
	l := path(seq(1, 2), set(3), confSeq(4, 5))
	if !aspath.Same(l, deep(l)) || !aspath.Same(nil, []api.Seg{}) || !aspath.Same(path(seq()), path(api.Seg{Kind: api.SegSeq})) {
		t.Error("the same are not")
	}
	others := [][]api.Seg{
		nil, l[:2], l[1:], append(deep(l), seq(6)), path(seq(1), seq(2), set(3), confSeq(4, 5)), path(seq(1, 2, 3), set(), confSeq(4, 5)), path(seq(2, 1), set(3), confSeq(4, 5)),
	}
	for i := range l {
		other := deep(l)
		other[i].Kind = api.SegConfSet
		others = append(others, other)
		for k := range l[i].AS {
			other = deep(l)
			other[i].AS[k]++
			others = append(others, other)
		}
		other = deep(l)
		other[i].AS = append(other[i].AS, 9)
		others = append(others, other)
	}
	for _, other := range others {
		if aspath.Same(l, other) || aspath.Same(other, l) {
			t.Errorf("Same as %s", show(other))
		}
	}
}

func TestP4_2Examples(t *testing.T) {
	full := seq(some(255)...)
	for _, x := range []struct {
		l      []api.Seg
		as     uint32
		confed bool
		want   []api.Seg
		err    api.Errno
	}{
		{path(seq(1)), 7, false, path(seq(7, 1)), api.OK},
		{path(set(1)), 7, false, path(seq(7), set(1)), api.OK},
		{path(confSeq(5), seq(1)), 7, true, path(confSeq(7, 5), seq(1)), api.OK},
		{path(seq(1)), 7, true, path(confSeq(7), seq(1)), api.OK},
		{path(full), 7, false, path(seq(7), full), api.OK},
		{slices.Repeat(path(set(1)), 16), 7, false, nil, api.ErrLong},
		{path(seq(1)), 0, false, nil, api.ErrArg},
		{nil, 7, false, path(seq(7)), api.OK},
		{nil, 7, true, path(confSeq(7)), api.OK},
		{path(confSeq(5), seq(1)), 7, false, path(seq(7), confSeq(5), seq(1)), api.OK},
		{path(confSet(5), seq(1)), 7, true, path(confSeq(7), confSet(5), seq(1)), api.OK},
	} {
		got, err := aspath.Prepend(x.l, x.as, x.confed)
		if err != x.err || !same(got, x.want) {
			t.Errorf("Prepend(%s, %d, %t): %s, %d", brief(x.l), x.as, x.confed, brief(got), err)
		}
	}
}

// TestP4_2EachPath puts ahead of each path, those that may not be among them.
func TestP4_2EachPath(t *testing.T) {
	for _, l := range anyPaths() {
		for _, as := range []uint32{0, 1, 7, 65535, 65536, math.MaxUint32} {
			for _, confed := range []bool{false, true} {
				want, wantErr := prepended(l, as, confed)
				got, err := aspath.Prepend(l, as, confed)
				if err != wantErr || !same(got, want) || err != api.OK && got != nil {
					t.Errorf("Prepend(%s, %d, %t): %s, %d, not %s, %d", brief(l), as, confed, brief(got), err, brief(want), wantErr)
				}
			}
		}
	}
}

// TestP4_2FullFirst: a full first segment takes no AS more, and one below it does; of 16 segments only the latter goes.
func TestP4_2FullFirst(t *testing.T) {
	for _, confed := range []bool{false, true} {
		kind := api.SegSeq
		if confed {
			kind = api.SegConfSeq
		}
		for _, n := range []int{1, 254, 255} {
			for _, segs := range []int{1, 15, 16} {
				l := append(path(api.Seg{Kind: kind, AS: some(n)}), slices.Repeat(path(set(9)), segs-1)...)
				got, err := aspath.Prepend(l, 7, confed)
				switch {
				case n < 255 && (err != api.OK || len(got) != segs || len(got[0].AS) != n+1):
					t.Errorf("%d ASs, %d segments: %s, %d", n, segs, brief(got), err)
				case n == 255 && segs < 16 && (err != api.OK || len(got) != segs+1 || len(got[0].AS) != 1 || len(got[1].AS) != 255):
					t.Errorf("%d ASs, %d segments: %s, %d", n, segs, brief(got), err)
				case n == 255 && segs == 16 && (err != api.ErrLong || got != nil):
					t.Errorf("%d ASs, %d segments: %s, %d", n, segs, brief(got), err)
				}
			}
		}
	}
}

// TestP4_2Often puts ASs ahead until there is no more room.
func TestP4_2Often(t *testing.T) {
	for _, confed := range []bool{false, true} {
		var l []api.Seg
		for i := range uint32(16 * 255) {
			next, err := aspath.Prepend(l, 1+i, confed)
			if err != api.OK || len(next) != 1+int(i)/255 {
				t.Fatalf("%d: %s, %d", i, brief(next), err)
			}
			l = next
		}
		for i, as := range aspath.Flat(l) {
			if as != uint32(16*255-i) {
				t.Fatalf("at %d stands %d", i, as)
			}
		}
		if got, err := aspath.Prepend(l, 7, confed); err != api.ErrLong || got != nil {
			t.Errorf("one more: %s, %d", brief(got), err)
		}
		if got, err := aspath.Prepend(l, 0, confed); err != api.ErrArg || got != nil {
			t.Errorf("one more, of 0: %s, %d", brief(got), err)
		}
	}
}

// roomy lays a path with room behind its ends, filled with a number that no path has, and tells whether all of it is as it was.
func roomy(l []api.Seg) ([]api.Seg, func() bool) {
	const mark = 0xdeadbeef
	wide := make([]api.Seg, len(l), len(l)+3)
	for i, seg := range l {
		as := append(slices.Clone(seg.AS), mark, mark, mark)
		wide[i] = api.Seg{Kind: seg.Kind, AS: as[:len(seg.AS):len(as)]}
	}
	for i := range wide[len(l):cap(wide)] {
		wide[:cap(wide)][len(l)+i] = api.Seg{Kind: mark}
	}
	before := show(l)
	return wide, func() bool {
		for i := range wide {
			n := len(wide[i].AS)
			if !slices.Equal(wide[i].AS[n:n+3], []uint32{mark, mark, mark}) {
				return false
			}
		}
		for _, seg := range wide[:cap(wide)][len(l):] {
			if seg.Kind != mark || seg.AS != nil {
				return false
			}
		}
		return show(wide) == before
	}
}

// spoil writes over all that an answer holds, the room behind its ends too.
func spoil(l []api.Seg) {
	l = l[:cap(l)]
	for i := range l {
		as := l[i].AS[:cap(l[i].AS)]
		for k := range as {
			as[k] = 0xbad
		}
		l[i] = api.Seg{Kind: -1}
	}
}

// TestMemory (R5): what is handed in stays as it is, and shares nothing with what is answered.
func TestMemory(t *testing.T) {
	calls := map[string]func(l []api.Seg){
		"Prepend": func(l []api.Seg) { got, _ := aspath.Prepend(l, 7, false); spoil(got) },
		"Prepend, confed": func(l []api.Seg) {
			got, _ := aspath.Prepend(l, 7, true)
			spoil(got)
		},
		"Bare": func(l []api.Seg) { spoil(aspath.Bare(l)) },
		"Flat": func(l []api.Seg) { spoil(path(seq(aspath.Flat(l)...))) },
		"others": func(l []api.Seg) {
			aspath.Check(l)
			aspath.Length(l)
			aspath.First(l)
			aspath.Has(l, 7)
			aspath.Encode(l, true)
			aspath.Encode(l, false)
			aspath.Text(l)
			aspath.Same(l, l)
		},
	}
	for _, l := range anyPaths() {
		for name, call := range calls {
			wide, stays := roomy(l)
			call(wide)
			if !stays() {
				t.Errorf("%s changes %s", name, brief(l))
			}
		}
	}
}

// TestListsApart (R5): no two lists of one answer share memory.
func TestListsApart(t *testing.T) {
	l := path(seq(1, 2), set(3, 4), seq(5), set(6, 7, 8))
	prepended, _ := aspath.Prepend(l, 9, false)
	before, _ := aspath.Prepend(l, 9, true)
	decoded, _ := aspath.Decode(laid(l, true), true)
	parsed, _ := aspath.Parse(text(l))
	for i, got := range [][]api.Seg{prepended, before, aspath.Bare(l), decoded, parsed} {
		for k := range got {
			want := deep(got)
			want[k] = api.Seg{Kind: -1, AS: []uint32{0xbad}}
			spoil(got[k : k+1 : k+1])
			got[k].AS = []uint32{0xbad}
			wantSegs(t, "answer "+string(rune('0'+i)), got, want)
		}
	}
}

// TestP4_6Prepend: what putting ahead does to what is told of a path.
func TestP4_6Prepend(t *testing.T) {
	for _, l := range pool() {
		for _, as := range asked[1:] {
			got, err := aspath.Prepend(l, as, false)
			if err == api.OK {
				if n := aspath.Length(got); n != aspath.Length(l)+1 {
					t.Errorf("Length(%s): %d", brief(got), n)
				}
				if f, ok := aspath.First(got); f != as || !ok {
					t.Errorf("First(%s): %d, %t", brief(got), f, ok)
				}
				wantAhead(t, got, l, as)
			}
			got, err = aspath.Prepend(l, as, true)
			if err == api.OK {
				if n := aspath.Length(got); n != aspath.Length(l) {
					t.Errorf("Length(%s): %d", brief(got), n)
				}
				wantSegs(t, "Bare", aspath.Bare(got), aspath.Bare(l))
				wantAhead(t, got, l, as)
			}
		}
	}
}

// wantAhead: all ASs are as they were, behind the new one, and so are all segments behind the first ones.
func wantAhead(t *testing.T, got, l []api.Seg, as uint32) {
	t.Helper()
	if f := aspath.Flat(got); !slices.Equal(f, append([]uint32{as}, aspath.Flat(l)...)) {
		t.Errorf("Flat(%s): %d", brief(got), f)
	}
	if aspath.Check(got) != api.OK {
		t.Errorf("%s may not be", brief(got))
	}
	switch behind := l; len(got) {
	case len(l):
		wantSegs(t, "behind", got[1:], behind[1:])
	default:
		wantSegs(t, "behind", got[1:], behind)
	}
}

func TestP4_6BareAndHas(t *testing.T) {
	for _, l := range anyPaths() {
		if a, b := aspath.Length(aspath.Bare(l)), aspath.Length(l); a != b {
			t.Errorf("Length of Bare(%s): %d, not %d", brief(l), a, b)
		}
		f := aspath.Flat(l)
		for _, as := range append(slices.Clone(asked), f[:min(len(f), 300)]...) {
			if aspath.Has(l, as) != slices.Contains(f, as) {
				t.Errorf("Has(%s, %d)", brief(l), as)
			}
		}
	}
}
