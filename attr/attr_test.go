package attr_test

import (
	"slices"
	"testing"

	"herald/api"
	"herald/attr"
)

func wantAttrs(t *testing.T, what string, got, want api.Attrs) {
	t.Helper()
	if show(got) != show(want) {
		t.Errorf("%s: %s, not %s", what, brief(got), brief(want))
	}
}

func TestP6_1Check(t *testing.T) {
	for _, a := range pool() {
		if e := attr.Check(a); e != api.OK {
			t.Errorf("Check(%s): %d", brief(a), e)
		}
	}
	for _, a := range wrong() {
		if e := attr.Check(a); e != api.ErrArg {
			t.Errorf("Check(%s): %d", brief(a), e)
		}
	}
}

// TestP6_1CheckLengths asks for each number of all that is counted.
func TestP6_1CheckLengths(t *testing.T) {
	want := func(what string, n int, a api.Attrs, may bool) {
		t.Helper()
		if e := attr.Check(a); (e == api.OK) != may {
			t.Errorf("%d of %s: %d", n, what, e)
		}
	}
	for n := range 70 {
		want("Next", n, api.Attrs{Next: string(make([]byte, n))}, n == 0 || n == 4 || n == 16)
		want("Path", n, api.Attrs{Path: slices.Repeat(path(seq(1)), n)}, n <= 16)
		want("Comms", n, api.Attrs{Comms: count(n, nthComm)}, n <= 64)
		want("Exts", n, api.Attrs{Exts: count(n, nthExt)}, n <= 64)
		want("Larges", n, api.Attrs{Larges: count(n, nthLarge)}, n <= 64)
		want("Clusters", n, api.Attrs{Clusters: count(n, nthCluster)}, n <= 32)
		want("Clusters, all alike", n, api.Attrs{Clusters: make([]uint32, n)}, n <= 32)
		want("Origin", n, api.Attrs{Origin: n}, n <= 2)
		want("Origin", -n, api.Attrs{Origin: -n}, n == 0)
	}
}

// TestP6_1CheckEachPlace turns two that stand beside each other, or makes them alike, at each place of a full list.
func TestP6_1CheckEachPlace(t *testing.T) {
	for i := range 63 {
		for _, a := range []api.Attrs{
			with(greatest(), func(a *api.Attrs) { a.Comms[i], a.Comms[i+1] = a.Comms[i+1], a.Comms[i] }),
			with(greatest(), func(a *api.Attrs) { a.Comms[i] = a.Comms[i+1] }),
			with(greatest(), func(a *api.Attrs) { a.Exts[i], a.Exts[i+1] = a.Exts[i+1], a.Exts[i] }),
			with(greatest(), func(a *api.Attrs) { a.Exts[i] = a.Exts[i+1] }),
			with(greatest(), func(a *api.Attrs) { a.Larges[i], a.Larges[i+1] = a.Larges[i+1], a.Larges[i] }),
			with(greatest(), func(a *api.Attrs) { a.Larges[i] = a.Larges[i+1] }),
		} {
			if e := attr.Check(a); e != api.ErrArg {
				t.Errorf("place %d: %d", i, e)
			}
		}
	}
}

// anyAttrs has attributes that may be, and others.
func anyAttrs() []api.Attrs { return slices.Concat(pool(), wrong()) }

func TestP6_1Same(t *testing.T) {
	l := anyAttrs()
	texts := make([]string, len(l))
	for i, a := range l {
		texts[i] = show(a)
	}
	for i, a := range l {
		if !attr.Same(a, deep(a)) || !attr.Same(deep(a), a) {
			t.Errorf("not the same: %s", brief(a))
		}
		for k, b := range l {
			if is := attr.Same(a, b); is != (texts[i] == texts[k]) {
				t.Errorf("Same(%s, %s): %t", brief(a), brief(b), is)
			}
		}
	}
}

// TestP6_1SameAsksAll changes one field, or one place of a list, alone.
func TestP6_1SameAsksAll(t *testing.T) {
	for i, change := range []func(a *api.Attrs){
		func(a *api.Attrs) { a.Origin++ },
		func(a *api.Attrs) { a.Path[0].Kind++ },
		func(a *api.Attrs) { a.Path[1].AS[1]++ },
		func(a *api.Attrs) { a.Path = a.Path[:1] },
		func(a *api.Attrs) { a.Path = append(a.Path, seq()) },
		func(a *api.Attrs) { a.Next += "\x00" },
		func(a *api.Attrs) { a.Next = "" },
		func(a *api.Attrs) { a.HasMed = false },
		func(a *api.Attrs) { a.Med++ },
		func(a *api.Attrs) { a.HasPref = false },
		func(a *api.Attrs) { a.Pref++ },
		func(a *api.Attrs) { a.Atomic = false },
		func(a *api.Attrs) { a.AggAS++ },
		func(a *api.Attrs) { a.AggId++ },
		func(a *api.Attrs) { a.Comms[1]++ },
		func(a *api.Attrs) { a.Comms = a.Comms[:1] },
		func(a *api.Attrs) { a.Comms = append(a.Comms, 0) },
		func(a *api.Attrs) { slices.Reverse(a.Comms) },
		func(a *api.Attrs) { a.Exts[0] += 1 << 32 },
		func(a *api.Attrs) { a.Exts = a.Exts[1:] },
		func(a *api.Attrs) { a.Larges[0].Global++ },
		func(a *api.Attrs) { a.Larges[0].A++ },
		func(a *api.Attrs) { a.Larges[1].B++ },
		func(a *api.Attrs) { a.Larges = nil },
		func(a *api.Attrs) { a.HasOrig = false },
		func(a *api.Attrs) { a.Orig++ },
		func(a *api.Attrs) { a.Clusters[0], a.Clusters[1] = a.Clusters[1], a.Clusters[0] },
		func(a *api.Attrs) { a.Clusters = a.Clusters[:2] },
	} {
		other := with(full(), change)
		if attr.Same(full(), other) || attr.Same(other, full()) {
			t.Errorf("change %d: the same", i)
		}
	}
}

// TestP6_1SameLists: a list of nothing is nil or empty (R4).
func TestP6_1SameLists(t *testing.T) {
	none := api.Attrs{Path: []api.Seg{}, Comms: []uint32{}, Exts: []uint64{}, Larges: []api.Large{}, Clusters: []uint32{}}
	if !attr.Same(none, api.Attrs{}) || !attr.Same(api.Attrs{}, none) || attr.Check(none) != api.OK {
		t.Error("empty lists and none")
	}
	if !attr.Same(api.Attrs{Path: path(seq())}, api.Attrs{Path: path(api.Seg{Kind: api.SegSeq, AS: []uint32{}})}) {
		t.Error("an empty segment")
	}
	wantAttrs(t, "Copy", attr.Copy(none), api.Attrs{})
}

func TestP6_1Copy(t *testing.T) {
	for _, a := range anyAttrs() {
		before := deep(a)
		got := attr.Copy(a)
		wantAttrs(t, "Copy", got, before)
		spoil(got)
		wantAttrs(t, "what was copied", a, before)
		got = attr.Copy(a)
		spoil(a)
		wantAttrs(t, "the copy", got, before)
	}
}

// spoilList writes over a list, the room behind its end too.
func spoilList[T any](l []T, with T) {
	l = l[:cap(l)]
	for i := range l {
		l[i] = with
	}
}

// spoil writes over all lists of attributes.
func spoil(a api.Attrs) {
	p := a.Path[:cap(a.Path)]
	for i := range p {
		spoilList(p[i].AS, 0xbad)
		p[i] = api.Seg{Kind: -1}
	}
	spoilList(a.Comms, 0xbad)
	spoilList(a.Exts, 0xbad)
	spoilList(a.Larges, api.Large{Global: 0xbad})
	spoilList(a.Clusters, 0xbad)
}

// roomyList lays a list with room behind its end, filled with a mark, and tells whether that room is as it was.
func roomyList[T comparable](l []T, mark T) ([]T, func() bool) {
	wide := append(append(make([]T, 0, len(l)+3), l...), mark, mark, mark)
	n := len(l)
	return wide[:n:cap(wide)], func() bool {
		return slices.Equal(wide[n:n+3], []T{mark, mark, mark})
	}
}

// roomy lays attributes whose lists have room behind their ends, and tells whether all is as it was.
func roomy(a api.Attrs) (api.Attrs, func() bool) {
	const mark = 0xdeadbeef
	before := show(a)
	var asks []func() bool
	keep := func(ask func() bool) { asks = append(asks, ask) }
	p := make([]api.Seg, len(a.Path), len(a.Path)+2)
	for i, seg := range a.Path {
		as, ask := roomyList(seg.AS, mark)
		keep(ask)
		p[i] = api.Seg{Kind: seg.Kind, AS: as}
	}
	n := len(p)
	for i := n; i < cap(p); i++ {
		p[:cap(p)][i].Kind = mark
	}
	keep(func() bool {
		return !slices.ContainsFunc(p[n:cap(p)], func(seg api.Seg) bool { return seg.Kind != mark || seg.AS != nil })
	})
	a.Path = p
	var ask func() bool
	a.Comms, ask = roomyList(a.Comms, mark)
	keep(ask)
	a.Exts, ask = roomyList(a.Exts, mark)
	keep(ask)
	a.Larges, ask = roomyList(a.Larges, api.Large{B: mark})
	keep(ask)
	a.Clusters, ask = roomyList(a.Clusters, mark)
	keep(ask)
	return a, func() bool {
		for _, ask := range asks {
			if !ask() {
				return false
			}
		}
		return show(a) == before
	}
}

// TestMemory (R5): what is handed in, and the room behind its ends, stays as it is, whatever is done to what is answered.
func TestMemory(t *testing.T) {
	calls := map[string]func(a api.Attrs){
		"Check": func(a api.Attrs) { attr.Check(a) },
		"Same":  func(a api.Attrs) { attr.Same(a, a) },
		"Copy": func(a api.Attrs) {
			b := attr.Copy(a)
			b.Comms = append(b.Comms, 0xbad)
			b.Clusters = append(b.Clusters, 0xbad)
			spoil(b)
		},
		"Write": func(a api.Attrs) {
			for _, four := range []bool{true, false} {
				l, _ := attr.Write(a, four)
				spoilList(l, api.Raw{Flags: 0xba})
			}
		},
	}
	for _, a := range anyAttrs() {
		for name, call := range calls {
			wide, stays := roomy(a)
			call(wide)
			if !stays() {
				t.Errorf("%s changes %s", name, brief(a))
			}
		}
	}
}

// TestMemoryOfRaws (R5): so does a list of raw attributes.
func TestMemoryOfRaws(t *testing.T) {
	for _, a := range pool() {
		l := written(a, true)
		wide, stays := roomyList(l, api.Raw{Value: "mark"})
		attr.Lay(wide)
		got, v := attr.Read(wide, true, true)
		spoil(got)
		if !stays() || !slices.Equal(wide, l) {
			t.Errorf("changed: %s", brief(l))
		}
		again, w := attr.Read(wide, true, true)
		want, _ := read(l, true, true)
		wantAttrs(t, "again", again, want)
		if v != w {
			t.Errorf("%v, then %v", v, w)
		}
	}
}

// TestListsApart (R5): no two lists of one answer share memory.
func TestListsApart(t *testing.T) {
	a := greatest()
	a.Next = ""
	read, _ := attr.Read(written(a, true), true, true)
	for _, got := range []api.Attrs{attr.Copy(a), read} {
		for i := range got.Path {
			spoilList(got.Path[i].AS, 0xbad)
			got.Path[i].AS = slices.Clone(a.Path[i].AS)
			wantAttrs(t, "behind a segment", got, a)
		}
		spoilList(got.Path, api.Seg{})
		got.Path = a.Path
		wantAttrs(t, "behind Path", got, a)
		spoilList(got.Comms, 0xbad)
		got.Comms = a.Comms
		wantAttrs(t, "behind Comms", got, a)
		spoilList(got.Exts, 0xbad)
		got.Exts = a.Exts
		wantAttrs(t, "behind Exts", got, a)
		spoilList(got.Larges, api.Large{})
		got.Larges = a.Larges
		wantAttrs(t, "behind Larges", got, a)
		spoilList(got.Clusters, 0xbad)
		got.Clusters = a.Clusters
		wantAttrs(t, "behind Clusters", got, a)
	}
}
