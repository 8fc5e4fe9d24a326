package admit_test

import (
	"math/rand/v2"
	"reflect"
	"slices"
	"testing"

	"herald/admit"
	"herald/api"
)

// side is one of two neighbours, as it sees the connections of both.
type side struct {
	own     bool // which one this side began: of false and true
	older   bool // which one it has for the older one
	old     int
	greater bool
}

// stays answers which one of the connections a side keeps.
func (s side) stays(t *testing.T) bool {
	t.Helper()
	here := s.older == s.own
	in := !s.older != s.own
	closeOld, closeNew := admit.Keep(s.old, s.greater, here, in)
	if closeOld == closeNew {
		t.Errorf("%+v: %t, %t", s, closeOld, closeNew)
	}
	if closeOld {
		return !s.older
	}
	return s.older
}

// wantBoth looks whether two sides, each of which began one connection, keep the same one, whichever each has for the older one, and whatever its state is.
func wantBoth(t *testing.T, a, b bool) {
	t.Helper()
	for way := range 4 {
		for oldA := api.Idle; oldA < api.Established; oldA++ {
			for oldB := api.Idle; oldB < api.Established; oldB++ {
				one := side{own: true, older: way&1 != 0, old: oldA, greater: a}
				other := side{own: false, older: way&2 != 0, old: oldB, greater: b}
				if x, y := one.stays(t), other.stays(t); x != y || x != a {
					t.Errorf("%+v keeps %t, %+v keeps %t", one, x, other, y)
				}
			}
		}
	}
}

func TestP21_5BothSides(t *testing.T) {
	wantBoth(t, true, false)
	wantBoth(t, false, true)
}

// Of two identifiers, or two addresses, that are unlike just one is the greater one: then both sides keep the same one.
func TestP21_5WhoIsGreater(t *testing.T) {
	r := rand.New(rand.NewPCG(21, 5))
	for range 300 {
		a, b := r.Uint32()>>r.IntN(32), r.Uint32()>>r.IntN(32)
		if r.IntN(2) == 0 {
			b = a ^ 1<<r.IntN(32)
		}
		if a != b {
			wantBoth(t, admit.Wins(a, b), admit.Wins(b, a))
		}
		x, y := anyAddress(r), anyAddress(r)
		if r.IntN(2) == 0 {
			y = turned(x, r.IntN(8*len(x)))
		}
		if x != y {
			wantBoth(t, admit.Above(x, y), admit.Above(y, x))
		}
	}
}

// anyAddress is one of few that lie near one another.
func anyAddress(r *rand.Rand) string {
	b := []byte(addr([]string{"10.0.0.0", "10.1.0.0", "10.1.1.0", "128.0.0.0", "1:0:0:0:0:0:0:0", "1:0:0:0:0:0:0:1"}[r.IntN(6)]))
	if r.IntN(2) == 0 {
		b[r.IntN(len(b))] = byte(r.IntN(256))
	}
	b[len(b)-1] |= byte(r.IntN(4))
	return string(b)
}

// anyRange covers that address or another one, or may not be.
func anyRange(r *rand.Rand, address string) api.Prefix {
	if r.IntN(3) == 0 {
		address = anyAddress(r)
	}
	p := api.Prefix{Fam: api.V4, Len: r.IntN(8*len(address) + 1)}
	if len(address) == 16 {
		p.Fam = api.V6
	}
	p.Addr = cut(address, p.Len)
	switch r.IntN(16) {
	case 0:
		p.Fam = r.IntN(8)
	case 1:
		p.Addr = address
	case 2:
		p.RD = 7
	case 3:
		p.Len = r.IntN(40) - 2
	}
	return p
}

func anyNeighbour(r *rand.Rand, address string) api.Peer {
	p := full([]string{"", "a", "r", "ab", "abcd", "abcdefgh"}[r.IntN(6)], "")
	switch r.IntN(12) {
	case 0:
		p.Addr = address
	case 1:
		p.Addr = anyAddress(r)
	case 2:
		p.Addr, p.Range = anyAddress(r), anyRange(r, address)
	default:
		p.Range = anyRange(r, address)
	}
	return p
}

func anyList(r *rand.Rand, address string) []api.Peer {
	var l []api.Peer
	for range r.IntN(7) {
		l = append(l, anyNeighbour(r, address))
	}
	return l
}

// nearer tells whether a neighbour that is put behind a list takes the place of what was found of it (-1: nothing).
func nearer(l []api.Peer, found int, p api.Peer, address string) bool {
	named := func(p api.Peer) bool { return p.Addr == address }
	if slices.ContainsFunc(l, named) {
		return false
	}
	if named(p) {
		return true
	}
	if p.Addr != "" || !modelCovers(p.Range, address) {
		return false
	}
	return found < 0 || p.Range.Len > l[found].Range.Len
}

// One more neighbour behind changes nothing, but where it is nearer.
func TestP21_5OneMoreBehind(t *testing.T) {
	r := rand.New(rand.NewPCG(21, 55))
	var counts [4]int
	for range 20000 {
		address := anyAddress(r)
		l, p := anyList(r, address), anyNeighbour(r, address)
		found, ok := admit.Find(l, address)
		if n, is := modelFind(l, address); n != found || is != ok {
			t.Fatalf("Find(%s, %q) = %d, %t", short(l), address, found, ok)
		}
		if !ok {
			found = -1
		}
		want, kind := found, 0
		if nearer(l, found, p, address) {
			want, kind = len(l), 2
		}
		if ok {
			kind++
		}
		counts[kind]++
		wantFind(t, "one more", append(l, p), address, want)
	}
	// None then as ahead, the same one, one where none was, a nearer one.
	if slices.Min(counts[:]) < 1000 {
		t.Errorf("too few of a kind: %v", counts)
	}
}

// What comes of a neighbour is of its own address, ahead of all others, and of no other address.
func TestP21_6FoundByItsOwnAddress(t *testing.T) {
	r := rand.New(rand.NewPCG(21, 6))
	counts := map[api.Errno]int{}
	for range 20000 {
		address := anyAddress(r)
		p, l := anyNeighbour(r, address), anyList(r, address)
		d, err := admit.Dynamic(p, address)
		want, wantErr := modelDynamic(p, address)
		if err != wantErr || !same(d, want) {
			t.Fatalf("Dynamic(%s, %q) = %s, %d, want %s, %d", short(p), address, short(d), err, short(want), wantErr)
		}
		counts[err]++
		if err != api.OK {
			continue
		}
		with := append([]api.Peer{d}, l...)
		wantFind(t, "ahead", with, address, 0)
		wantFind(t, "alone", with[:1], address, 0)
		wantFind(t, "ahead of its range", []api.Peer{d, p}, address, 0)
		wantFind(t, "behind its range", []api.Peer{p, d}, address, 1)
		if other := anyAddress(r); other != address {
			wantFind(t, "of another address", with[:1], other, -1)
			if n, ok := admit.Find(l, other); ok {
				wantFind(t, "of another address", with, other, n+1)
			} else {
				wantFind(t, "of another address", with, other, -1)
			}
		}
	}
	if min(counts[api.OK], counts[api.ErrArg], counts[api.ErrLong]) < 1000 {
		t.Errorf("too few of a kind: %v", counts)
	}
}

// What the functions answer hangs on what they are handed alone, also where that is spoiled between two calls.
func TestP21_6NothingIsKept(t *testing.T) {
	r := rand.New(rand.NewPCG(21, 66))
	for range 500 {
		address := anyAddress(r)
		l, p := anyList(r, address), anyNeighbour(r, address)
		wasL, wasP := clone(l), clone(p)
		n, ok := admit.Find(l, address)
		d, err := admit.Dynamic(p, address)
		wasD := clone(d)
		spoil(reflect.ValueOf(l))
		spoil(reflect.ValueOf(p))
		spoil(reflect.ValueOf(d))
		if m, is := admit.Find(wasL, address); m != n || is != ok {
			t.Errorf("Find: %d, %t, then %d, %t", n, ok, m, is)
		}
		if e, again := admit.Dynamic(wasP, address); again != err || !same(e, wasD) {
			t.Errorf("Dynamic: %s, %d, then %s, %d", short(wasD), err, short(e), again)
		}
	}
}
