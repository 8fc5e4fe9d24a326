package polvm_test

import (
	"math"
	"math/rand"
	"reflect"
	"slices"
	"testing"

	"herald/api"
	"herald/polvm"
)

// wantChange does an action to a route, which must change just so.
func wantChange(t *testing.T, a api.Action, l []api.Set, r api.Route, change func(a *api.Attrs)) {
	t.Helper()
	wantAct(t, a, l, 65000, r, with(r, func(r *api.Route) { change(&r.Attrs) }), api.OK)
}

func TestP17_3Examples(t *testing.T) {
	wantAct(t, do(api.DoPrepend, 1), nil, 0, plain(), api.Route{}, api.ErrArg)
	wantAct(t, accept, nil, 65000, plain(), plain(), api.OK)
	wantAct(t, accept, nil, 0, plain(), plain(), api.OK)
}

// Those that set one thing, for all routes: nothing else changes.
func TestP17_3Plain(t *testing.T) {
	for _, r := range routes() {
		wantChange(t, accept, nil, r, func(a *api.Attrs) {})
		wantChange(t, reject, nil, r, func(a *api.Attrs) {})
		wantChange(t, noMed, nil, r, func(a *api.Attrs) { a.HasMed, a.Med = false, 0 })
		for _, n := range []uint32{0, 1, 200, 1 << 31, math.MaxUint32} {
			wantChange(t, do(api.DoPref, n), nil, r, func(a *api.Attrs) { a.HasPref, a.Pref = true, n })
			wantChange(t, do(api.DoMed, n), nil, r, func(a *api.Attrs) { a.HasMed, a.Med = true, n })
		}
		for n := range uint32(3) {
			wantChange(t, do(api.DoOrigin, n), nil, r, func(a *api.Attrs) { a.Origin = int(n) })
		}
		for _, addr := range addrs {
			wantChange(t, next(addr), nil, r, func(a *api.Attrs) { a.Next = addr })
		}
	}
}

// What stands in a route already is put again, or taken away twice.
func TestP17_3Again(t *testing.T) {
	r := rich()
	wantChange(t, do(api.DoPref, 6), nil, r, func(a *api.Attrs) {})
	wantChange(t, do(api.DoMed, 5), nil, r, func(a *api.Attrs) {})
	wantChange(t, do(api.DoOrigin, 1), nil, r, func(a *api.Attrs) {})
	wantChange(t, next(r.Attrs.Next), nil, r, func(a *api.Attrs) {})
	wantChange(t, noMed, nil, plain(), func(a *api.Attrs) {})
	wantChange(t, do(api.DoMed, 0), nil, plain(), func(a *api.Attrs) { a.HasMed = true })
	wantChange(t, do(api.DoPref, 0), nil, plain(), func(a *api.Attrs) { a.HasPref = true })
}

// A community comes to its own place; one that is there already changes nothing, of the most ones too.
func TestP17_3Add(t *testing.T) {
	comms := func(l ...uint32) api.Route { return with(rich(), func(r *api.Route) { r.Attrs.Comms = l }) }
	for _, c := range []struct {
		has  []uint32
		n    uint32
		want []uint32
	}{
		{nil, 0, []uint32{0}},
		{nil, api.NoExport, []uint32{api.NoExport}},
		{[]uint32{1, 3}, 2, []uint32{1, 2, 3}},
		{[]uint32{1, 3}, 0, []uint32{0, 1, 3}},
		{[]uint32{1, 3}, math.MaxUint32, []uint32{1, 3, math.MaxUint32}},
		{[]uint32{1, 3}, 1, []uint32{1, 3}},
		{[]uint32{1, 3}, 3, []uint32{1, 3}},
		{count(most - 1), 640, count(most)},
		{count(most), 10, count(most)},
		{count(most), 640, count(most)},
		{count(most)[1:], 10, count(most)},
	} {
		wantAct(t, do(api.DoAdd, c.n), nil, 0, comms(c.has...), comms(c.want...), api.OK)
	}
	for _, n := range []uint32{0, 5, 11, 641, 650, math.MaxUint32} {
		wantAct(t, do(api.DoAdd, n), nil, 1, comms(count(most)...), api.Route{}, api.ErrFull)
	}
}

func TestP17_3Del(t *testing.T) {
	comms := func(l ...uint32) api.Route { return with(rich(), func(r *api.Route) { r.Attrs.Comms = l }) }
	for _, c := range []struct{ has, set, want []uint32 }{
		{nil, nil, nil},
		{nil, []uint32{1, 2}, nil},
		{[]uint32{1, 2, 3}, nil, []uint32{1, 2, 3}},
		{[]uint32{1, 2, 3}, []uint32{2, 9}, []uint32{1, 3}},
		{[]uint32{1, 2, 3}, []uint32{1, 2, 3}, nil},
		{[]uint32{1, 2, 3}, []uint32{0, 4, api.NoExport}, []uint32{1, 2, 3}},
		{[]uint32{0, 2, math.MaxUint32}, []uint32{0, math.MaxUint32}, []uint32{2}},
		{count(most), count(most), nil},
		{count(most), []uint32{640}, count(most - 1)},
	} {
		wantAct(t, del("s"), sets(commSet("s", c.set...)), 0, comms(c.has...), comms(c.want...), api.OK)
		wantAct(t, del("s"), sets(commSet("a", c.has...), commSet("s", c.set...), commSet("t", c.has...)), 7, comms(c.has...), comms(c.want...), api.OK)
	}
}

// The own AS stands ahead as often as it is told, in a first sequence that has room, else in a new one.
func TestP17_3Prepend(t *testing.T) {
	paths := func(l ...api.Seg) api.Route { return with(rich(), func(r *api.Route) { r.Attrs.Path = l }) }
	own := func(n int) []uint32 { return repeat(uint32(70000), n) }
	long := func(n int) []uint32 { return repeat(uint32(9), n) }
	for n := 1; n <= 8; n++ {
		for _, c := range []struct{ path, want []api.Seg }{
			{nil, path(seq(own(n)...))},
			{path(seq(1, 2)), path(seq(append(own(n), 1, 2)...))},
			{path(seq(1), seq(2)), path(seq(append(own(n), 1)...), seq(2))},
			{path(set(1)), path(seq(own(n)...), set(1))},
			{path(confSeq(1), seq(2)), path(seq(own(n)...), confSeq(1), seq(2))},
			{path(confSet(1)), path(seq(own(n)...), confSet(1))},
			{path(seq(long(255 - n)...)), path(seq(append(own(n), long(255-n)...)...))},
			{path(seq(long(254)...)), modelPath(own(n), long(254))},
			{path(seq(long(255)...)), path(seq(own(n)...), seq(long(255)...))},
			{repeat(set(1), 15), append(path(seq(own(n)...)), repeat(set(1), 15)...)},
			{append(path(seq(3)), repeat(set(1), 15)...), append(path(seq(append(own(n), 3)...)), repeat(set(1), 15)...)},
			{append(path(seq(long(255-n)...)), repeat(seq(1), 15)...), append(path(seq(append(own(n), long(255-n)...)...)), repeat(seq(1), 15)...)},
		} {
			wantAct(t, do(api.DoPrepend, uint32(n)), nil, 70000, paths(c.path...), paths(c.want...), api.OK)
		}
		for _, l := range [][]api.Seg{
			repeat(set(1), 16),
			repeat(confSeq(1), 16),
			append(path(seq(long(255)...)), repeat(seq(1), 15)...),
			append(path(seq(long(256-n)...)), repeat(set(1), 15)...),
		} {
			wantAct(t, do(api.DoPrepend, uint32(n)), nil, 70000, paths(l...), api.Route{}, api.ErrLong)
			wantAct(t, do(api.DoPrepend, uint32(n)), nil, 0, paths(l...), api.Route{}, api.ErrArg)
		}
	}
	for _, as := range []uint32{1, 65535, 65536, math.MaxUint32} {
		wantAct(t, do(api.DoPrepend, 1), nil, as, plain(), with(plain(), func(r *api.Route) { r.Attrs.Path = path(seq(as, 1, 2)) }), api.OK)
	}
}

// modelPath is a full sequence behind what has no room in it.
func modelPath(own, rest []uint32) []api.Seg {
	if len(own) == 1 {
		return path(seq(append(own, rest...)...))
	}
	return path(seq(own[1:]...), seq(append(own[:1:1], rest...)...))
}

// The own AS 0 is nothing to all but a DoPrepend.
func TestP17_3NoAS(t *testing.T) {
	l := sets(setOf("s", api.SetComm))
	for _, a := range []api.Action{accept, reject, do(api.DoPref, 1), do(api.DoMed, 1), noMed, do(api.DoAdd, 1), del("s"), next("abcd"), do(api.DoOrigin, 2)} {
		want, err := modelAct(a, l, 0, rich())
		if err != api.OK {
			t.Fatalf("%v: %d", a, err)
		}
		wantAct(t, a, l, 0, rich(), want, api.OK)
	}
	for n := uint32(1); n <= 8; n++ {
		wantAct(t, do(api.DoPrepend, n), l, 0, rich(), api.Route{}, api.ErrArg)
	}
}

// Actions at the edges: ErrArg, unless they may be.
func TestP17_3Actions(t *testing.T) {
	for _, a := range actionsOf() {
		var l []api.Set
		if isName(a.Name) && len(a.Name) < 16 {
			l = sets(setOf(a.Name, api.SetComm))
		}
		for _, as := range []uint32{0, 65000} {
			want, wantErr := modelAct(a, l, as, rich())
			if got, err := polvm.Act(a, l, as, rich()); err != wantErr || !same(got, want) {
				t.Errorf("Act(%s, %s, %d, rich): %s, %d, want %s, %d", brief(a), brief(l), as, brief(got), err, brief(want), wantErr)
			}
		}
	}
}

func TestP17_3Names(t *testing.T) {
	wantAct(t, del("s"), nil, 1, rich(), api.Route{}, api.ErrName)
	for kind := 1; kind <= 3; kind++ {
		l := sets(setOf("a", api.SetComm), setOf("s", kind), setOf("z", api.SetComm))
		if kind == api.SetComm {
			wantChange(t, del("s"), l, rich(), func(a *api.Attrs) { a.Comms = []uint32{api.NoExport} })
		} else {
			wantAct(t, del("s"), l, 1, rich(), api.Route{}, api.ErrName)
		}
		for _, name := range []string{"b", "ss", "s-", "s0"} {
			wantAct(t, del(name), l, 1, rich(), api.Route{}, api.ErrName)
		}
	}
}

// What may not be is told ahead of names, and ahead of what communities and paths have no room for.
func TestP17_3ErrArgFirst(t *testing.T) {
	l := sets(setOf("s", api.SetComm))
	for _, r := range wrongRoutes() {
		for _, a := range []api.Action{accept, do(api.DoPref, 1), noMed, do(api.DoAdd, 7), del("s"), del("none"), do(api.DoPrepend, 8), next("abcd"), do(api.DoOrigin, 0)} {
			wantAct(t, a, l, 1, r, api.Route{}, api.ErrArg)
		}
	}
	for _, l := range wrongTogether() {
		for _, a := range []api.Action{accept, del("s"), del("none"), do(api.DoAdd, 7), do(api.DoPrepend, 8)} {
			wantAct(t, a, l, 1, greatest(), api.Route{}, api.ErrArg)
		}
	}
	wantAct(t, del("A"), l, 1, plain(), api.Route{}, api.ErrArg)
	wantAct(t, do(api.DoAdd, 7), l, 1, greatest(), api.Route{}, api.ErrFull)
	wantAct(t, do(api.DoPrepend, 8), l, 1, greatest(), api.Route{}, api.ErrLong)
	wantAct(t, do(api.DoPrepend, 9), l, 1, greatest(), api.Route{}, api.ErrArg)
	wantAct(t, do(api.DoPrepend, 0), l, 1, greatest(), api.Route{}, api.ErrArg)
}

// The route that comes out shares no list with the one that went in, nor two of its lists any.
func TestP17_3OwnLists(t *testing.T) {
	shared := []uint32{1, 2, 3}
	r := with(rich(), func(r *api.Route) {
		r.Attrs.Path = path(seq(shared...), seq(shared...), set(shared...))
		for i := range r.Attrs.Path {
			r.Attrs.Path[i].AS = shared
		}
		r.Attrs.Comms, r.Attrs.Clusters = shared, shared
	})
	l := sets(api.Set{Name: "s", Kind: api.SetComm, Comms: shared})
	was := deep(r)
	for _, a := range []api.Action{accept, reject, do(api.DoPref, 1), do(api.DoMed, 1), noMed, do(api.DoAdd, 1), do(api.DoAdd, 9), del("s"), do(api.DoPrepend, 2), next("abcd"), do(api.DoOrigin, 2)} {
		out, err := polvm.Act(a, l, 65000, r)
		want, _ := modelAct(a, l, 65000, was)
		if err != api.OK || !same(out, want) {
			t.Fatalf("Act(%v): %v, %d", a, out, err)
		}
		x, y := &out.Attrs, &want.Attrs
		for i, seg := range x.Path {
			spoil(reflect.ValueOf(seg))
			for k := i + 1; k < len(x.Path); k++ {
				if !same(x.Path[k], y.Path[k]) {
					t.Errorf("Act(%v): two segments share their ASs", a)
				}
			}
		}
		if !slices.Equal(x.Comms, y.Comms) || !slices.Equal(x.Clusters, y.Clusters) {
			t.Errorf("Act(%v): lists share memory with the path's", a)
		}
		spoil(reflect.ValueOf(x.Comms))
		if !slices.Equal(x.Clusters, y.Clusters) {
			t.Errorf("Act(%v): communities and clusters share memory", a)
		}
		spoil(reflect.ValueOf(out))
		if !slices.Equal(shared, []uint32{1, 2, 3}) || !same(r, was) {
			t.Fatalf("Act(%v): what was handed in is changed by what came out", a)
		}
	}
}

// Much that is made of little is held against the model.
func TestP17_3Model(t *testing.T) {
	r := rand.New(rand.NewSource(19))
	type met struct {
		kind int
		err  api.Errno
	}
	seen := map[met]int{}
	for range 15000 {
		a, l, x := randomAction(r), randomSets(r), randomRoute(r)
		as := one(r, []uint32{65000, 65000, 1, math.MaxUint32, 0})
		want, err := modelAct(a, l, as, x)
		seen[met{a.Kind, err}]++
		wantAct(t, a, l, as, x, want, err)
	}
	for kind := api.DoPref; kind <= api.DoOrigin; kind++ {
		if seen[met{kind, api.OK}] < 500 {
			t.Errorf("the kind %d is done %d times", kind, seen[met{kind, api.OK}])
		}
	}
	for _, m := range []met{{api.DoAdd, api.ErrFull}, {api.DoDel, api.ErrName}, {api.DoPrepend, api.ErrArg}, {api.DoPrepend, api.ErrLong}} {
		if seen[m] < 50 {
			t.Errorf("%v is met %d times", m, seen[m])
		}
	}
}
