package trie_test

import (
	"math/rand"
	"slices"
	"testing"

	"herald/api"
	"herald/trie"
)

// eight, sixteen, red are the prefixes of the chapter's examples.
var (
	eight   = v4("\x0a", 8)
	sixteen = v4("\x0a\x01", 16)
	red     = vpn4(7, "", 0)
)

func TestExamples(t *testing.T) {
	x := trie.New[int]()
	wantSet(t, x, eight, 1, api.OK)
	wantSet(t, x, sixteen, 2, api.OK)
	wantSet(t, x, red, 3, api.OK)

	wantMatch(t, x, v4("\x0a\x01\x02", 24), pair{sixteen, 2}, true)
	wantMatch(t, x, v4("\x0a\x02", 16), pair{eight, 1}, true)
	wantMatch(t, x, v4("\x0b", 8), pair{}, false)

	wantMatch(t, x, vpn4(7, "\x09", 8), pair{red, 3}, true)
	wantMatch(t, x, vpn4(8, "\x09", 8), pair{}, false)
	wantMatch(t, x, v4("\x0a", 7), pair{}, false)

	wantTold(t, "Under", x.Under(v4("", 0)), []pair{{eight, 1}, {sixteen, 2}})
	wantTold(t, "Under", x.Under(sixteen), []pair{{sixteen, 2}})
	wantTold(t, "Under", x.Under(v4("\x0a\x01\x02", 24)), nil)
	wantTold(t, "All", x.All(), []pair{{eight, 1}, {sixteen, 2}, {red, 3}})

	wantDel(t, x, sixteen, true)
	wantDel(t, x, sixteen, false)
	wantLen(t, x, 2)
	wantSet(t, x, api.Prefix{}, 1, api.ErrArg)
}

func TestP3_1New(t *testing.T) {
	x := trie.New[int]()
	wantSame(t, x, model{}, pool())
	for _, p := range pool() {
		wantDel(t, x, p, false)
	}
	y := trie.New[int]()
	wantSet(t, y, eight, 1, api.OK)
	wantLen(t, x, 0)
}

// TestP3_1SetGetDel gives each prefix of all families a value, and takes it away again; at each step all others are as they were.
func TestP3_1SetGetDel(t *testing.T) {
	x, m := trie.New[int](), model{}
	each := func() {
		t.Helper()
		for _, p := range pool() {
			v, ok := m[p]
			wantGet(t, x, p, v, ok)
		}
		wantHeld(t, x, m)
	}
	for i, p := range pool() {
		wantGet(t, x, p, 0, false)
		wantDel(t, x, p, false)
		wantSet(t, x, p, i+1, api.OK)
		m[p] = i + 1
		each()
	}
	for _, p := range pool() {
		wantDel(t, x, p, true)
		delete(m, p)
		wantDel(t, x, p, false)
		each()
	}
}

func TestP3_1SetTwice(t *testing.T) {
	x, m := full()
	for i, p := range pool() {
		wantSet(t, x, p, -i, api.OK)
		m[p] = -i
		wantSet(t, x, p, -i, api.OK)
	}
	wantSame(t, x, m, pool())
	for _, p := range pool() {
		wantDel(t, x, p, true)
		wantDel(t, x, p, false)
		wantGet(t, x, p, 0, false)
	}
	wantLen(t, x, 0)
}

// TestP3_1ZeroIsAValue: a value is there because it was set, not because it is unlike none.
func TestP3_1ZeroIsAValue(t *testing.T) {
	x := trie.New[int]()
	wantSet(t, x, eight, 0, api.OK)
	wantSet(t, x, sixteen, 0, api.OK)
	wantSame(t, x, model{eight: 0, sixteen: 0}, pool())
	wantDel(t, x, eight, true)
	wantSame(t, x, model{sixteen: 0}, pool())
}

// TestP3_1Forks: places where two prefixes part have no value of their own, until they are set, and then their own prefix.
func TestP3_1Forks(t *testing.T) {
	for fam := api.V4; fam <= api.Families; fam++ {
		most := 8 * sizes[fam]
		for n := range most {
			b := make([]byte, sizes[fam])
			low := api.Prefix{Fam: fam, Addr: string(b), Len: most}
			b[n/8] = 0x80 >> (n % 8)
			high := api.Prefix{Fam: fam, Addr: string(b), Len: most}
			fork := api.Prefix{Fam: fam, Addr: low.Addr, Len: n}
			for _, l := range [][]api.Prefix{{low, high}, {high, low}} {
				x, m := made(l...)
				wantSame(t, x, m, []api.Prefix{fork, low, high})
				wantDel(t, x, fork, false)
				wantSet(t, x, fork, 9, api.OK)
				m[fork] = 9
				wantSame(t, x, m, []api.Prefix{fork, low, high})
				wantDel(t, x, fork, true)
				delete(m, fork)
				wantSame(t, x, m, []api.Prefix{fork, low, high})
			}
		}
	}
}

// TestP3_1Wrong: a prefix that may not be has no value, is given none, and nothing changes by it.
func TestP3_1Wrong(t *testing.T) {
	x, m := full()
	empty := trie.New[int]()
	for _, p := range wrong() {
		for _, y := range []*trie.Trie[int]{x, empty} {
			wantSet(t, y, p, 99, api.ErrArg)
			wantGet(t, y, p, 0, false)
			wantDel(t, y, p, false)
		}
	}
	wantSame(t, x, m, pool())
	wantSame(t, empty, model{}, pool())
}

// TestP3_1Values: values of any type, and zero ones where there is none.
func TestP3_1Values(t *testing.T) {
	list := trie.New[[]string]()
	list.Set(eight, []string{"a"})
	if v, ok := list.Get(eight); !ok || !slices.Equal(v, []string{"a"}) {
		t.Errorf("a list: %#v, %t", v, ok)
	}
	if v, ok := list.Get(sixteen); ok || v != nil {
		t.Errorf("no list: %#v, %t", v, ok)
	}
	call := trie.New[func() int]()
	call.Set(eight, func() int { return 5 })
	if v, ok := call.Get(eight); !ok || v() != 5 {
		t.Error("a function")
	}
	call.Set(sixteen, nil)
	if v, ok := call.Get(sixteen); !ok || v != nil || call.Len() != 2 {
		t.Error("a function that is none")
	}
	if q, v, ok := call.Match(red); ok || v != nil || q != (api.Prefix{}) {
		t.Error("no function")
	}
}

// TestNotThere (R3): of a nil trie, and of one that New did not make.
func TestNotThere(t *testing.T) {
	var none *trie.Trie[int]
	for _, x := range []*trie.Trie[int]{none, new(trie.Trie[int]), {}} {
		for _, p := range slices.Concat(pool(), wrong()) {
			wantSet(t, x, p, 1, api.ErrNil)
			wantGet(t, x, p, 0, false)
			wantDel(t, x, p, false)
			wantMatch(t, x, p, pair{}, false)
			wantTold(t, "Under", x.Under(p), nil)
		}
		wantTold(t, "All", x.All(), nil)
		wantLen(t, x, 0)
		if x.Copy() != nil {
			t.Error("a copy of none")
		}
	}
}

func TestP3_2Match(t *testing.T) {
	for _, holds := range [][]api.Prefix{nil, pool()[:1], every(2, 0), every(2, 1), every(3, 0), every(5, 2), pool()} {
		x, m := made(holds...)
		for _, p := range pool() {
			best, ok := m.longest(p)
			wantMatch(t, x, p, best, ok)
		}
		for _, p := range wrong() {
			wantMatch(t, x, p, pair{}, false)
		}
	}
}

// every takes each n-th prefix of the pool.
func every(n, from int) []api.Prefix {
	var l []api.Prefix
	for i, p := range pool() {
		if i%n == from {
			l = append(l, p)
		}
	}
	return l
}

// TestP3_2EachLength: one prefix of each length above an address, of each family; each length is matched by itself, and, when it is gone, by the one above it.
func TestP3_2EachLength(t *testing.T) {
	for fam := api.V4; fam <= api.Families; fam++ {
		x, chain := trie.New[int](), chainOf(fam)
		for i, p := range chain {
			wantSet(t, x, p, i, api.OK)
		}
		for i, p := range chain {
			wantMatch(t, x, p, pair{p, i}, true)
		}
		for i := len(chain) - 1; i > 0; i-- {
			wantDel(t, x, chain[i], true)
			wantMatch(t, x, chain[i], pair{chain[i-1], i - 1}, true)
			wantMatch(t, x, chain[len(chain)-1], pair{chain[i-1], i - 1}, true)
		}
		wantDel(t, x, chain[0], true)
		wantMatch(t, x, chain[0], pair{}, false)
	}
}

// chainOf has all prefixes that cover one address, from the shortest one on.
func chainOf(fam int) []api.Prefix {
	var l []api.Prefix
	addr := make([]byte, sizes[fam])
	for n := 0; n <= 8*sizes[fam]; n++ {
		l = append(l, api.Prefix{Fam: fam, Addr: string(addr), Len: n})
		if n < 8*sizes[fam] && n%3 != 0 {
			addr[n/8] |= 0x80 >> (n % 8)
		}
	}
	return l
}

// TestP3_2Apart: a prefix of another family, or of another distinguisher, covers nothing.
func TestP3_2Apart(t *testing.T) {
	x, _ := made(v4("", 0), v6("", 0), vpn4(7, "", 0))
	for _, p := range []api.Prefix{
		{Fam: api.L4, Addr: fit(api.L4, "\x0a"), Len: 8},
		vpn4(0, "\x0a", 8),
		vpn4(6, "\x0a", 8),
		vpn4(7<<56, "\x0a", 8),
		{Fam: api.Vpn6, RD: 7, Addr: fit(api.Vpn6, "\x0a"), Len: 8},
	} {
		wantMatch(t, x, p, pair{}, false)
		wantTold(t, "Under", x.Under(p), nil)
	}
}

func TestP3_3Under(t *testing.T) {
	for _, holds := range [][]api.Prefix{nil, pool()[:1], every(2, 0), every(2, 1), every(3, 0), every(5, 2), pool()} {
		x, m := made(holds...)
		for _, p := range pool() {
			wantTold(t, "Under", x.Under(p), m.coveredBy(p))
		}
		for _, p := range wrong() {
			wantTold(t, "Under of what may not be", x.Under(p), nil)
		}
	}
}

// TestP3_3AllInOrder: by family, distinguisher, address, length, whatever was set first.
func TestP3_3AllInOrder(t *testing.T) {
	rising := []api.Prefix{
		v4("", 0), v4("", 1), v4("", 32), v4("\x00\x00\x00\x01", 32), v4("\x0a", 7), v4("\x0a", 8), v4("\x0a", 32), v4("\x0a\x01", 16), v4("\x0a\x80", 9), v4("\x0b", 8), v4("\x80", 1), v4("\xff\xff\xff\xff", 32),
		v6("", 0), v6("\x0a", 8), v6("\x0a", 128),
		{Fam: api.L4, Addr: fit(api.L4, ""), Len: 0},
		vpn4(0, "\xff", 8), vpn4(1, "", 0), vpn4(1, "\x0a", 8), vpn4(2, "", 0), vpn4(255, "", 0), vpn4(256, "", 0), vpn4(1<<63, "", 0),
		{Fam: api.Vpn6, Addr: fit(api.Vpn6, ""), Len: 0},
	}
	for by := 1; by < len(rising); by++ {
		x := trie.New[int]()
		for i := range rising {
			// Each k comes once, at the place to which this step brings it.
			for k := range rising {
				if (k*by)%len(rising) == i {
					wantSet(t, x, rising[k], k, api.OK)
				}
			}
		}
		var want []pair
		for i, p := range rising {
			want = append(want, pair{p, i})
		}
		wantTold(t, "All", x.All(), want)
		wantLen(t, x, len(rising))
	}
}

func TestP3_3Len(t *testing.T) {
	x := trie.New[int]()
	for i, p := range pool() {
		wantLen(t, x, i)
		x.Set(p, i)
		x.Set(p, i+1)
		x.Set(api.Prefix{}, i)
	}
	for i := range pool() {
		wantLen(t, x, len(pool())-i)
		x.Del(pool()[i])
		x.Del(pool()[i])
		x.Del(api.Prefix{})
	}
	wantLen(t, x, 0)
}

// TestP3_3Copy: what is done to the copy, or to what it was copied of, is not seen in the other one.
func TestP3_3Copy(t *testing.T) {
	for i, p := range pool() {
		x, m := made(every(2, 0)...)
		want := copyOf(m)
		c := x.Copy()
		wantHeld(t, c, want)
		if i%2 == 0 {
			wantDel(t, x, p, true)
			delete(m, p)
		}
		wantSet(t, x, pool()[(i+7)%len(pool())], -1, api.OK)
		m[pool()[(i+7)%len(pool())]] = -1
		wantHeld(t, x, m)
		wantHeld(t, c, want)

		wantSet(t, c, p, -2, api.OK)
		want[p] = -2
		again := c.Copy()
		wantDel(t, c, pool()[0], true)
		wantHeld(t, again, want)
		delete(want, pool()[0])
		wantHeld(t, c, want)
		wantHeld(t, x, m)
	}
}

func copyOf(m model) model {
	c := model{}
	for p, v := range m {
		c[p] = v
	}
	return c
}

// TestP3_3CopyToTheEnd: both are emptied and filled by themselves.
func TestP3_3CopyToTheEnd(t *testing.T) {
	x, m := full()
	c := x.Copy()
	for _, p := range pool() {
		wantDel(t, x, p, true)
	}
	wantHeld(t, x, model{})
	wantSame(t, c, m, pool())
	empty := x.Copy()
	wantSet(t, x, eight, 5, api.OK)
	wantHeld(t, empty, model{})
	wantSet(t, empty, red, 6, api.OK)
	wantHeld(t, x, model{eight: 5})
	wantHeld(t, empty, model{red: 6})
	wantSame(t, c, m, pool())
}

// TestP3_3CopyAsTheyAre: the values of a copy are those very ones.
func TestP3_3CopyAsTheyAre(t *testing.T) {
	x, v := trie.New[*int](), new(int)
	x.Set(eight, v)
	if got, ok := x.Copy().Get(eight); !ok || got != v {
		t.Error("another value")
	}
}

// TestRangeLeft (R8): a range is left behind each of its prefixes, and gone through again.
func TestRangeLeft(t *testing.T) {
	x, m := full()
	for _, c := range []struct {
		seq  func(func(api.Prefix, int) bool)
		want []pair
	}{{x.All(), m.all()}, {x.Under(v4("", 0)), m.coveredBy(v4("", 0))}, {x.Under(v6("\x0a", 7)), m.coveredBy(v6("\x0a", 7))}} {
		for n := 1; n <= len(c.want); n++ {
			var got []pair
			for p, v := range c.seq {
				got = append(got, pair{p, v})
				if len(got) == n {
					break
				}
			}
			if !slices.Equal(got, c.want[:n]) {
				t.Errorf("left behind %d: %#v", n, got)
			}
		}
		wantTold(t, "gone through again", c.seq, c.want)
		wantTold(t, "and again", c.seq, c.want)
	}
	wantHeld(t, x, m)
}

// TestRangeBegins (R8): what is told is what there is when going through it begins, not when the range was asked for.
func TestRangeBegins(t *testing.T) {
	x, m := trie.New[int](), model{}
	all, under := x.All(), x.Under(v4("\x0a", 7))
	for i, p := range pool() {
		x.Set(p, i)
		m[p] = i
		wantTold(t, "All", all, m.all())
		wantTold(t, "Under", under, m.coveredBy(v4("\x0a", 7)))
	}
	for _, p := range pool() {
		x.Del(p)
		delete(m, p)
		wantTold(t, "All", all, m.all())
		wantTold(t, "Under", under, m.coveredBy(v4("\x0a", 7)))
	}
}

// TestRangeChanged (R8): what is done to the trie while it is gone through is not told, but is done.
func TestRangeChanged(t *testing.T) {
	acts := map[string]func(x *trie.Trie[int], p api.Prefix){
		"taken away": func(x *trie.Trie[int], p api.Prefix) {
			for _, q := range pool() {
				x.Del(q)
			}
		},
		"taken away one by one": func(x *trie.Trie[int], p api.Prefix) { x.Del(p) },
		"set": func(x *trie.Trie[int], p api.Prefix) {
			for _, q := range pool() {
				x.Set(q, -1)
			}
		},
		"gone through": func(x *trie.Trie[int], p api.Prefix) { gather(x.All()) },
	}
	for what, act := range acts {
		for _, by := range []api.Prefix{v4("", 0), v6("\x0a", 7), red} {
			x, m := made(every(2, 0)...)
			var got []pair
			for p, v := range x.Under(by) {
				got = append(got, pair{p, v})
				act(x, p)
			}
			if !slices.Equal(got, m.coveredBy(by)) {
				t.Errorf("%s: Under tells %#v", what, got)
			}
		}
		x, m := made(every(2, 0)...)
		var got []pair
		for p, v := range x.All() {
			got = append(got, pair{p, v})
			act(x, p)
		}
		if !slices.Equal(got, m.all()) {
			t.Errorf("%s: All tells %#v", what, got)
		}
	}
	x, _ := full()
	for p := range x.All() {
		wantDel(t, x, p, true)
	}
	wantHeld(t, x, model{})
}

// TestRangeInRange (R8): two ranges of one trie are gone through at once, each by itself.
func TestRangeInRange(t *testing.T) {
	x, m := made(every(5, 1)...)
	all := x.All()
	var got []pair
	for p, v := range all {
		wantTold(t, "the inner one", all, m.all())
		wantTold(t, "the inner one", x.Under(p), m.coveredBy(p))
		got = append(got, pair{p, v})
	}
	if !slices.Equal(got, m.all()) {
		t.Errorf("the outer one: %#v", got)
	}
}

// TestRangeOfNone (R1): a range that is handed no function tells nobody anything.
func TestRangeOfNone(t *testing.T) {
	x, _ := full()
	x.All()(nil)
	x.Under(eight)(nil)
	trie.New[int]().All()(nil)
}

// TestP3_4AnyOrder sets, and takes some away, in all orders of some prefixes: what is left counts alone.
func TestP3_4AnyOrder(t *testing.T) {
	l := []api.Prefix{eight, sixteen, v4("\x0a\x01\x80", 17), v4("\x0a\x80", 9), v4("", 0), red}
	want := model{}
	for i, p := range l[:4] {
		want[p] = i
	}
	for steps := range orders(len(l)) {
		x := trie.New[int]()
		for _, i := range steps {
			wantSet(t, x, l[i], i, api.OK)
		}
		// The steps' own order, begun in the midst, so that it isn't that in which they were set.
		for _, i := range slices.Concat(steps[3:], steps[:3]) {
			if i >= 4 {
				wantDel(t, x, l[i], true)
			}
		}
		wantSame(t, x, want, l)
	}
}

// orders tells all orders of the numbers below n.
func orders(n int) func(func([]int) bool) {
	return func(yield func([]int) bool) {
		var extend func(done, left []int) bool
		extend = func(done, left []int) bool {
			if len(left) == 0 {
				return yield(slices.Clone(done))
			}
			for i := range left {
				rest := slices.Delete(slices.Clone(left), i, i+1)
				if !extend(append(slices.Clone(done), left[i]), rest) {
					return false
				}
			}
			return true
		}
		var all []int
		for i := range n {
			all = append(all, i)
		}
		extend(nil, all)
	}
}

// TestP3_4ManySteps sets and takes away many things, near one another and far, and holds the trie against the model.
func TestP3_4ManySteps(t *testing.T) {
	for seed := range int64(12) {
		r := rand.New(rand.NewSource(seed))
		some := pool()
		for range 60 {
			some = append(some, anyPrefix(r))
		}
		x, m := trie.New[int](), model{}
		for step := range 600 {
			p := some[r.Intn(len(some))]
			if r.Intn(5) < 3 {
				wantSet(t, x, p, step, api.OK)
				m[p] = step
			} else {
				_, had := m[p]
				wantDel(t, x, p, had)
				delete(m, p)
			}
			if step%150 == 149 {
				wantSame(t, x, m, some)
			}
		}
	}
}

// anyPrefix has few bits that are not 0, so that many are near one another.
func anyPrefix(r *rand.Rand) api.Prefix {
	fam := 1 + r.Intn(api.Families)
	p := api.Prefix{Fam: fam, Len: r.Intn(8*sizes[fam] + 1)}
	if fam == api.Vpn4 || fam == api.Vpn6 {
		p.RD = uint64(r.Intn(3)) << (8 * r.Intn(8))
	}
	addr := make([]byte, sizes[fam])
	for range r.Intn(4) {
		if p.Len > 0 {
			n := r.Intn(p.Len)
			addr[n/8] |= 0x80 >> (n % 8)
		}
	}
	p.Addr = string(addr)
	return p
}

// TestP3_4MatchItself: of what has a value Match tells that one, and Get the same.
func TestP3_4MatchItself(t *testing.T) {
	x, m := full()
	for p, v := range x.All() {
		wantMatch(t, x, p, pair{p, v}, true)
		wantGet(t, x, p, m[p], true)
	}
}

// TestP3_4UnderIsOfAll: what Under tells is what All tells of what the prefix covers.
func TestP3_4UnderIsOfAll(t *testing.T) {
	x, _ := full()
	for _, p := range pool() {
		want := slices.DeleteFunc(gather(x.All()), func(o pair) bool { return !covers(p, o.p) })
		wantTold(t, "Under", x.Under(p), want)
	}
}

// TestP3_5OneMore: with one more value Match tells a longer prefix, or the same one as before.
func TestP3_5OneMore(t *testing.T) {
	for _, more := range pool() {
		x, _ := made(every(3, 1)...)
		before := x.Copy()
		x.Set(more, -1)
		for _, p := range pool() {
			old, _, had := before.Match(p)
			q, v, ok := x.Match(p)
			longer := ok && (!had || q.Len > old.Len)
			if had && !ok || q != old && !longer {
				t.Errorf("with %#v more, Match(%#v) tells %#v, not %#v", more, p, q, old)
			}
			if (v == -1) != (ok && q == more) {
				t.Errorf("with %#v more, Match(%#v) tells %#v with the value %d", more, p, q, v)
			}
		}
	}
}
