package polvm_test

import (
	"math/rand"
	"testing"

	"herald/api"
	"herald/polvm"
)

func TestP17_2Examples(t *testing.T) {
	wantHolds(t, number(api.IfLength, 1), nil, plain(), false, api.OK)
	wantHolds(t, not(number(api.IfLength, 1)), nil, plain(), true, api.OK)
	wantHolds(t, number(api.IfLength, 2), nil, plain(), true, api.OK)
	wantHolds(t, cond(api.IfPrefix, "t"), nil, plain(), false, api.ErrName)
}

func TestP17_2Prefix(t *testing.T) {
	ten := pre(api.V4, "\x0a", 8)
	s := prefixSet("s", api.Item{Prefix: pre(api.V4, "\x14", 8), Low: 8, High: 32}, api.Item{Prefix: ten, Low: 16, High: 24}, api.Item{Prefix: api.Prefix{Fam: api.Vpn4, RD: 7, Addr: ten.Addr, Len: 8}, Low: 8, High: 8})
	other := prefixSet("other", api.Item{Prefix: pre(api.V4, "", 0), Low: 0, High: 32})
	for _, c := range []struct {
		p    api.Prefix
		want bool
	}{
		{ten, false},
		{pre(api.V4, "\x0a", 15), false},
		{pre(api.V4, "\x0a\x01", 16), true},
		{pre(api.V4, "\x0a\x01\x01", 24), true},
		{pre(api.V4, "\x0a\x01\x01", 25), false},
		{pre(api.V4, "\x0b\x01", 16), false},
		{pre(api.V4, "\x14", 8), true},
		{pre(api.L4, "\x0a\x01", 16), false},
		{pre(api.Vpn4, "\x0a", 8), false},
		{api.Prefix{Fam: api.Vpn4, RD: 7, Addr: ten.Addr, Len: 8}, true},
		{api.Prefix{Fam: api.Vpn4, RD: 8, Addr: ten.Addr, Len: 8}, false},
		{pre(api.V6, "\x0a\x01", 16), false},
	} {
		r := with(rich(), func(r *api.Route) { r.Prefix = c.p })
		wantHolds(t, cond(api.IfPrefix, "s"), sets(other, s), r, c.want, api.OK)
		wantHolds(t, cond(api.IfPrefix, "s"), sets(s, other, setOf("ss", api.SetComm)), r, c.want, api.OK)
		wantHolds(t, cond(api.IfPrefix, "s"), sets(prefixSet("s")), r, false, api.OK)
	}
}

func TestP17_2Comm(t *testing.T) {
	for _, c := range []struct {
		has, set []uint32
		want     bool
	}{
		{nil, nil, false},
		{nil, []uint32{1, 5}, false},
		{[]uint32{1}, nil, false},
		{[]uint32{5, 9}, []uint32{1, 5}, true},
		{[]uint32{1}, []uint32{1, 5}, true},
		{[]uint32{0}, []uint32{0}, true},
		{[]uint32{2, 4, 6}, []uint32{1, 3, 5, 7}, false},
		{[]uint32{2, 4, api.NoExport}, []uint32{1, 3, api.NoExport}, true},
		{count(most), []uint32{640}, true},
		{count(most), []uint32{641}, false},
		{[]uint32{640}, count(most), true},
	} {
		r := with(rich(), func(r *api.Route) { r.Attrs.Comms = c.has })
		wantHolds(t, cond(api.IfComm, "s"), sets(commSet("s", c.set...)), r, c.want, api.OK)
		wantHolds(t, cond(api.IfComm, "s"), sets(commSet("a", c.has...), commSet("s", c.set...), commSet("t", c.has...)), r, c.want, api.OK)
	}
}

func TestP17_2Path(t *testing.T) {
	for _, c := range []struct {
		path    []api.Seg
		pattern string
		want    bool
	}{
		{nil, "", true},
		{nil, "*", true},
		{nil, ".", false},
		{path(seq(1, 2)), "1 2", true},
		{path(seq(1, 2)), "1 *", true},
		{path(seq(1, 2)), "2 1", false},
		{path(seq(1, 2)), "* 2 *", true},
		{path(seq(1, 2)), "* 3 *", false},
		{path(seq(1, 2)), ". . .", false},
		{path(seq(65000, 1), set(2)), "65000 *", true},
		{path(confSeq(6), seq(1), confSet(7)), "6 1 7", true},
		{path(confSeq(6), seq(1), confSet(7)), "1", false},
		{path(set(2, 1)), "2 1", true},
	} {
		r := with(rich(), func(r *api.Route) { r.Attrs.Path = c.path })
		wantHolds(t, cond(api.IfPath, "s"), sets(pathSet("s", pat(c.pattern))), r, c.want, api.OK)
		wantHolds(t, cond(api.IfPath, "s"), sets(pathSet("all", pat("*")), pathSet("s", pat("77"), pat(c.pattern), pat("78"))), r, c.want, api.OK)
		wantHolds(t, cond(api.IfPath, "s"), sets(pathSet("s"), pathSet("t", pat("*"))), r, false, api.OK)
	}
}

func TestP17_2Peer(t *testing.T) {
	for _, peer := range append([]string{""}, names...) {
		r := with(plain(), func(r *api.Route) { r.Peer = peer })
		for _, name := range names {
			wantHolds(t, cond(api.IfPeer, name), nil, r, peer == name, api.OK)
			wantHolds(t, cond(api.IfPeer, name), sets(setOf(name, api.SetPath)), r, peer == name, api.OK)
		}
	}
}

func TestP17_2Origin(t *testing.T) {
	for origin := range 3 {
		r := with(plain(), func(r *api.Route) { r.Attrs.Origin = origin })
		for n := range 3 {
			wantHolds(t, number(api.IfOrigin, n), nil, r, origin == n, api.OK)
		}
	}
}

// A set counts as one, a confederation's segment as nothing.
func TestP17_2Length(t *testing.T) {
	for _, c := range []struct {
		path []api.Seg
		n    int
	}{
		{nil, 0},
		{path(seq(1)), 1},
		{path(seq(1, 2, 3)), 3},
		{path(set(1, 2, 3)), 1},
		{path(confSeq(1, 2), confSet(3)), 0},
		{path(confSeq(1, 2), seq(1, 1), set(3, 4), confSet(3), seq(5)), 4},
		{repeat(seq(count(255)...), 16), 4080},
	} {
		r := with(plain(), func(r *api.Route) { r.Attrs.Path = c.path })
		for n := max(0, c.n-3); n <= c.n+3; n++ {
			wantHolds(t, number(api.IfLength, n), nil, r, c.n <= n, api.OK)
		}
		wantHolds(t, number(api.IfLength, 0), nil, r, c.n == 0, api.OK)
		wantHolds(t, number(api.IfLength, 65535), nil, r, true, api.OK)
	}
}

func TestP17_2Fam(t *testing.T) {
	for fam := 1; fam <= 5; fam++ {
		r := with(plain(), func(r *api.Route) { r.Prefix = pre(fam, "\x0a", 8) })
		for n := 1; n <= 5; n++ {
			wantHolds(t, number(api.IfFam, n), nil, r, fam == n, api.OK)
		}
	}
}

// Conditions at the edges: ErrArg, unless they may be.
func TestP17_2Conds(t *testing.T) {
	for _, c := range condsOf() {
		var l []api.Set
		if isName(c.Name) {
			l = sets(setOf(c.Name, 1+(c.Kind-1)&3%3))
		}
		want, wantErr := modelHolds(c, l, plain())
		if is, err := polvm.Holds(c, l, plain()); is != want || err != wantErr {
			t.Errorf("Holds(%s, %s, plain): %v, %d, want %v, %d", brief(c), brief(l), is, err, want, wantErr)
		}
	}
}

// Each kind with each set: of its own kind it is there.
func TestP17_2Names(t *testing.T) {
	r := with(plain(), func(r *api.Route) { r.Attrs.Comms = []uint32{5} })
	for kind := 1; kind <= 3; kind++ {
		for other := 1; other <= 3; other++ {
			l := sets(setOf("a", kind), setOf("s", other), setOf("z", kind))
			if kind == other {
				wantHolds(t, cond(kind, "s"), l, r, true, api.OK)
			} else {
				wantHolds(t, cond(kind, "s"), l, r, false, api.ErrName)
			}
			wantHolds(t, cond(kind, "a"), l, r, true, api.OK)
			wantHolds(t, cond(kind, "z"), l, r, true, api.OK)
			for _, name := range []string{"b", "ss", "s-", "s0"} {
				wantHolds(t, cond(kind, name), l, r, false, api.ErrName)
			}
		}
	}
}

// Routes that may not be are ErrArg, ahead of a name that nobody has.
func TestP17_2WrongRoutes(t *testing.T) {
	for _, r := range wrongRoutes() {
		for _, c := range []api.Cond{yes, no, number(api.IfOrigin, 0), number(api.IfFam, api.V4), cond(api.IfPeer, "a"), cond(api.IfComm, "s"), cond(api.IfPath, "s"), cond(api.IfPrefix, "none")} {
			wantHolds(t, c, sets(setOf("s", api.SetComm)), r, false, api.ErrArg)
		}
	}
	for _, r := range routes() {
		wantHolds(t, yes, nil, r, true, api.OK)
		wantHolds(t, cond(api.IfPrefix, "none"), nil, r, false, api.ErrName)
	}
}

// Sets that may not be together are ErrArg, whether they are asked or not.
func TestP17_2WrongSets(t *testing.T) {
	for _, l := range wrongTogether() {
		for _, c := range []api.Cond{yes, cond(api.IfPeer, "a"), cond(api.IfComm, "s"), cond(api.IfPath, "none")} {
			wantHolds(t, c, l, plain(), false, api.ErrArg)
		}
	}
	wantHolds(t, api.Cond{}, sets(setOf("s", 1)), plain(), false, api.ErrArg)
	wantHolds(t, cond(api.IfComm, "A"), sets(setOf("s", 1)), plain(), false, api.ErrArg)
}

// Much that is made of little is held against the model.
func TestP17_2Model(t *testing.T) {
	r := rand.New(rand.NewSource(18))
	count := map[[3]int]int{}
	for range 12000 {
		c, l, x := randomCond(r), randomSets(r), randomRoute(r)
		want, err := modelHolds(c, l, x)
		is := 0
		if want {
			is = 1
		}
		count[[3]int{c.Kind, is, int(err)}]++
		wantHolds(t, c, l, x, want, err)
	}
	for kind := 1; kind <= 7; kind++ {
		if count[[3]int{kind, 0, 0}] < 100 || count[[3]int{kind, 1, 0}] < 100 || kind <= 3 && count[[3]int{kind, 0, 8}] < 100 {
			t.Errorf("the kind %d is asked too seldom: %v", kind, count)
		}
	}
}

// A condition with Not holds just if it does not hold without: each right one, for each route.
func TestP17_6Not(t *testing.T) {
	l := sets(setOf("p", 1), setOf("c", 2), setOf("w", 3))
	for _, r := range routes() {
		for _, c := range append([]api.Cond{cond(1, "p"), cond(2, "c"), cond(3, "w")}, condsOf()...) {
			if !rightCond(c) || c.Kind <= 3 && setAt(l, c.Name, c.Kind) < 0 {
				continue
			}
			is, err := polvm.Holds(c, l, r)
			turned, e := polvm.Holds(not(c), l, r)
			if err != api.OK || e != api.OK || is == turned {
				t.Errorf("Holds(%s, .., %s): %v, %d, with Not turned: %v, %d", brief(c), brief(r), is, err, turned, e)
			}
		}
	}
}
