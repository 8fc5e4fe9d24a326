package trie_test

import (
	"cmp"
	"math"
	"slices"
	"strconv"
	"strings"
	"testing"

	"herald/api"
	"herald/trie"
)

// pair is a prefix and its value.
type pair struct {
	p api.Prefix
	v int
}

// model is what a trie must be: nothing but the values of prefixes, looked through one by one.
type model map[api.Prefix]int

// sizes of the families' addresses.
var sizes = map[int]int{api.V4: 4, api.V6: 16, api.L4: 4, api.Vpn4: 4, api.Vpn6: 16}

// fit is an address with these bytes ahead.
func fit(fam int, ahead string) string { return ahead + strings.Repeat("\x00", sizes[fam]-len(ahead)) }

func v4(addr string, n int) api.Prefix {
	return api.Prefix{Fam: api.V4, Addr: fit(api.V4, addr), Len: n}
}

func v6(addr string, n int) api.Prefix {
	return api.Prefix{Fam: api.V6, Addr: fit(api.V6, addr), Len: n}
}

func vpn4(rd uint64, addr string, n int) api.Prefix {
	return api.Prefix{Fam: api.Vpn4, RD: rd, Addr: fit(api.Vpn4, addr), Len: n}
}

// bitText is an address as a text of its bits.
func bitText(addr string) string {
	var b strings.Builder
	for i := range len(addr) {
		t := strconv.FormatUint(uint64(addr[i]), 2)
		b.WriteString(strings.Repeat("0", 8-len(t)) + t)
	}
	return b.String()
}

func covers(a, b api.Prefix) bool {
	if a.Fam != b.Fam || a.RD != b.RD || a.Len > b.Len {
		return false
	}
	return bitText(a.Addr)[:a.Len] == bitText(b.Addr)[:a.Len]
}

func order(a, b pair) int {
	return cmp.Or(cmp.Compare(a.p.Fam, b.p.Fam), cmp.Compare(a.p.RD, b.p.RD), strings.Compare(a.p.Addr, b.p.Addr), cmp.Compare(a.p.Len, b.p.Len))
}

func (m model) all() []pair {
	var l []pair
	for p, v := range m {
		l = append(l, pair{p, v})
	}
	slices.SortFunc(l, order)
	return l
}

// coveredBy is all that p covers.
func (m model) coveredBy(p api.Prefix) []pair {
	return slices.DeleteFunc(m.all(), func(x pair) bool { return !covers(p, x.p) })
}

// longest is the longest one that covers p.
func (m model) longest(p api.Prefix) (pair, bool) {
	best := pair{p: api.Prefix{Len: -1}}
	for q, v := range m {
		if covers(q, p) && q.Len > best.p.Len {
			best = pair{q, v}
		}
	}
	if best.p.Len < 0 {
		return pair{}, false
	}
	return best, true
}

// pool has prefixes that may be: of each family, with and without distinguishers, of length 0, of the greatest one, and of those beside the bytes' ends; many cover one another.
func pool() []api.Prefix {
	var l []api.Prefix
	for fam := api.V4; fam <= api.Families; fam++ {
		most := 8 * sizes[fam]
		rds := []uint64{0}
		if fam == api.Vpn4 || fam == api.Vpn6 {
			rds = []uint64{0, 1, 7, 256, 1 << 63, math.MaxUint64}
		}
		for _, rd := range rds {
			add := func(addr string, lens ...int) {
				for _, n := range lens {
					l = append(l, api.Prefix{Fam: fam, RD: rd, Addr: fit(fam, addr), Len: n})
				}
			}
			add("", 0, 1, 8, most)
			add("\x80", 1, 8)
			add("\x0a", 7, 8, 9, most)
			add("\x0a\x01", 16, 17)
			add("\x0a\x80", 9)
			add("\x0a\x01\x02", 23, 24)
			add(strings.Repeat("\xff", most/8-1)+"\xfe", most-1)
			add(strings.Repeat("\xff", most/8), most)
		}
	}
	return l
}

// wrong has things that may not be; many would be one of the pool's, or stand by one, if a bit, a byte or a number of theirs were passed by.
func wrong() []api.Prefix {
	l := []api.Prefix{
		{},
		v4("\x0a\x00\x00\x01", 8),
		v4("\x0a\x01", 15),
		v4("\x0a", 6),
		v4("\x80", 0),
		v4("", -1),
		v4("", math.MinInt),
		v4("\x0a", 33),
		v4("\x0a", 40),
		v4("\x0a", math.MaxInt),
		v6("\x0a", 129),
		v6("\x0a", 6),
		v6("\x0a", -8),
		vpn4(7, "\x00\x00\x00\x01", 31),
		vpn4(7, "", 33),
		{Fam: api.V4, Addr: "\x0a", Len: 8},
		{Fam: api.V4, Addr: "\x0a\x00\x00", Len: 8},
		{Fam: api.V4, Addr: "\x0a\x00\x00\x00\x00", Len: 8},
		{Fam: api.V4, Addr: fit(api.V6, "\x0a"), Len: 8},
		{Fam: api.V6, Addr: fit(api.V4, "\x0a"), Len: 8},
		{Fam: api.V4, RD: 7, Addr: fit(api.V4, "\x0a"), Len: 8},
		{Fam: api.V6, RD: 1, Addr: fit(api.V6, "\x0a"), Len: 8},
		{Fam: api.L4, RD: math.MaxUint64, Addr: fit(api.L4, ""), Len: 0},
	}
	for _, fam := range []int{math.MinInt, -255, -1, 0, 6, 255, 256, 257, 260, 1<<32 + 1, math.MaxInt} {
		l = append(l, api.Prefix{Fam: fam, Addr: fit(api.V4, "\x0a"), Len: 8}, api.Prefix{Fam: fam, Addr: fit(api.V6, ""), Len: 0}, api.Prefix{Fam: fam, RD: 7, Addr: fit(api.V4, ""), Len: 0})
	}
	return l
}

// full is a trie, and its model, in which each prefix of the pool has a value, its place.
func full() (*trie.Trie[int], model) { return made(pool()...) }

// made gives the prefixes the values 1, 2 and so on.
func made(l ...api.Prefix) (*trie.Trie[int], model) {
	x, m := trie.New[int](), model{}
	for i, p := range l {
		x.Set(p, i+1)
		m[p] = i + 1
	}
	return x, m
}

// gather is what a range tells.
func gather(seq func(func(api.Prefix, int) bool)) []pair {
	var l []pair
	for p, v := range seq {
		l = append(l, pair{p, v})
	}
	return l
}

func wantTold(t *testing.T, what string, seq func(func(api.Prefix, int) bool), want []pair) {
	t.Helper()
	if got := gather(seq); !slices.Equal(got, want) {
		t.Errorf("%s tells %#v, not %#v", what, got, want)
	}
}

func wantGet(t *testing.T, x *trie.Trie[int], p api.Prefix, want int, wantOk bool) {
	t.Helper()
	if v, ok := x.Get(p); v != want || ok != wantOk {
		t.Errorf("Get(%#v): %d, %t, not %d, %t", p, v, ok, want, wantOk)
	}
}

func wantMatch(t *testing.T, x *trie.Trie[int], p api.Prefix, want pair, wantOk bool) {
	t.Helper()
	if q, v, ok := x.Match(p); (pair{q, v}) != want || ok != wantOk {
		t.Errorf("Match(%#v): %#v, %d, %t, not %#v, %t", p, q, v, ok, want, wantOk)
	}
}

func wantDel(t *testing.T, x *trie.Trie[int], p api.Prefix, want bool) {
	t.Helper()
	if had := x.Del(p); had != want {
		t.Errorf("Del(%#v): %t", p, had)
	}
}

func wantSet(t *testing.T, x *trie.Trie[int], p api.Prefix, v int, want api.Errno) {
	t.Helper()
	if err := x.Set(p, v); err != want {
		t.Errorf("Set(%#v, %d): %d, not %d", p, v, err, want)
	}
}

func wantLen(t *testing.T, x *trie.Trie[int], want int) {
	t.Helper()
	if n := x.Len(); n != want {
		t.Errorf("Len: %d, not %d", n, want)
	}
}

// wantHeld asks for the values alone.
func wantHeld(t *testing.T, x *trie.Trie[int], m model) {
	t.Helper()
	wantTold(t, "All", x.All(), m.all())
	wantLen(t, x, len(m))
}

// wantSame asks all calls, by each of these prefixes.
func wantSame(t *testing.T, x *trie.Trie[int], m model, by []api.Prefix) {
	t.Helper()
	wantHeld(t, x, m)
	for _, p := range by {
		v, ok := m[p]
		wantGet(t, x, p, v, ok)
		best, ok := m.longest(p)
		wantMatch(t, x, p, best, ok)
		wantTold(t, "Under", x.Under(p), m.coveredBy(p))
	}
}
