package differ_test

import (
	"fmt"
	"math/rand"
	"slices"
	"strings"
	"testing"

	"herald/api"
	"herald/conf"
	"herald/differ"
)

// pair is a configuration with two peers of that kind, and a rule.
func pair(peers ...api.Peer) api.Config {
	c := small()
	c.Peers = peers
	c.Rules = []api.Policy{rule("r", iff(cond(api.IfComm, "n")))}
	c.Sets = []api.Set{comms("n", 1)}
	return c
}

// called is an external peer of that name.
func called(name string, n int) api.Peer {
	p := outer(n)
	p.Name = name
	return p
}

// mustBe looks whether all of them may be, for without that the rest says nothing.
func mustBe(t *testing.T, l ...api.Config) {
	t.Helper()
	for _, c := range l {
		if err := conf.Check(c); err != api.OK {
			t.Fatalf("%d: may not be: %s", err, short(c))
		}
	}
}

func TestP19_3Examples(t *testing.T) {
	c := full()
	mustBe(t, c)
	wantPlan(t, c, c, api.Plan{}, api.OK)
	wantPlan(t, small(), edit(small(), func(c *api.Config) { c.AS = 7 }), api.Plan{All: true}, api.OK)
	wantPlan(t, c, edit(c, func(c *api.Config) { c.AS = 0 }), api.Plan{}, api.ErrConf)

	a, b := called("a", 2), called("b", 3)
	again := change(b, func(p *api.Peer) { p.SelfNext = true })
	wantPlan(t, pair(a, b), pair(again, called("c", 4)), api.Plan{Added: []string{"c"}, Removed: []string{"a"}, Soft: []string{"b"}}, api.OK)

	asks := change(b, func(p *api.Peer) { p.In = "r" })
	more := edit(pair(asks, called("c", 4)), func(c *api.Config) { c.Sets[0].Comms = append(c.Sets[0].Comms, 2) })
	wantPlan(t, pair(a, asks), more, api.Plan{Added: []string{"c"}, Removed: []string{"a"}, Soft: []string{"b"}}, api.OK)
	wantPlan(t, pair(asks), edit(more, func(c *api.Config) { c.Peers = c.Peers[:1] }), api.Plan{Soft: []string{"b"}}, api.OK)
}

// What may not be, on either side or on both, comes ahead of all else.
func TestP19_3MayNotBe(t *testing.T) {
	wrong := []api.Config{{}, edit(small(), func(c *api.Config) { c.Id = 0 }), edit(small(), func(c *api.Config) { c.Addr = "" }), edit(small(), func(c *api.Config) { c.Low = 101 })}
	for _, how := range []func(c *api.Config){
		func(c *api.Config) { c.AS = 0 },
		func(c *api.Config) { c.Peers[0].Hold = 1 },
		func(c *api.Config) { c.Peers[1].Name = c.Peers[0].Name },
		func(c *api.Config) { c.Peers[1].In = "none" },
		func(c *api.Config) { c.Peers[3].Vrf = "none" },
		func(c *api.Config) { c.Peers[0].Name = "A b" },
		func(c *api.Config) { c.Vrfs[1].RD = c.Vrfs[0].RD },
		func(c *api.Config) { c.Statics[0].Next = "" },
		func(c *api.Config) { c.Statics[1].Vrf = "none" },
		func(c *api.Config) { c.Sets[1].Kind = 99 },
		func(c *api.Config) { c.Sets[1].Name = c.Sets[0].Name },
		func(c *api.Config) { c.Rules[0].Terms[0].Conds[0].Name = "none" },
		func(c *api.Config) { c.Rules[1].Name = c.Rules[0].Name },
		func(c *api.Config) { c.Members = append(c.Members, 0) },
	} {
		wrong = append(wrong, edit(full(), how))
	}
	for i, c := range wrong {
		if conf.Check(c) == api.OK {
			t.Fatalf("the configuration %d may be", i)
		}
		wantPlan(t, c, c, api.Plan{}, api.ErrConf)
		for _, d := range append(wrong, small(), full(), edit(full(), func(c *api.Config) { c.Id++ })) {
			wantPlan(t, c, d, api.Plan{}, api.ErrConf)
		}
	}
}

// wholeEdits turn one field of the whole each, and leave what may be one that may be.
func wholeEdits() []func(c *api.Config) {
	return []func(c *api.Config){
		func(c *api.Config) { c.Id++ }, func(c *api.Config) { c.Id ^= 1 << 31 },
		func(c *api.Config) { c.Confed++ },
		func(c *api.Config) { c.Members = append(c.Members, 65003) }, func(c *api.Config) { c.Members = append([]uint32{9}, c.Members...) },
		func(c *api.Config) { c.Members = append(c.Members, 65003, 65004) },
		func(c *api.Config) { c.Cluster++ }, func(c *api.Config) { c.Cluster = 0 }, func(c *api.Config) { c.Cluster = 1<<32 - 1 },
		func(c *api.Config) { c.Addr = host(77) },
		func(c *api.Config) { c.Low++ }, func(c *api.Config) { c.Low = c.High },
		func(c *api.Config) { c.High-- }, func(c *api.Config) { c.High = c.Low },
	}
}

// restEdits turn something that is not of the whole.
func restEdits() []func(c *api.Config) {
	return []func(c *api.Config){
		func(c *api.Config) {},
		func(c *api.Config) { c.Peers[0].Hold++ },
		func(c *api.Config) { c.Peers[4].Out = "p" },
		func(c *api.Config) { c.Peers = c.Peers[1:] },
		func(c *api.Config) { c.Peers = append(c.Peers, called("z", 99)) },
		func(c *api.Config) { c.Statics = nil },
		func(c *api.Config) { c.Vrfs[2].RD++ },
		func(c *api.Config) { c.Rules[0].Else = false },
		func(c *api.Config) { c.Sets[1].Comms = nil },
	}
}

// Each field of the whole by itself, and with other changes beside it: All, and all else zero.
func TestP19_3Whole(t *testing.T) {
	for i, whole := range wholeEdits() {
		for k, rest := range restEdits() {
			c := edit(edit(full(), rest), whole)
			mustBe(t, c)
			wantPlan(t, full(), c, api.Plan{All: true}, api.OK)
			wantPlan(t, c, c, api.Plan{}, api.OK)
			if t.Failed() {
				t.Fatalf("the edit %d of the whole, %d of the rest", i, k)
			}
		}
	}
	// The AS and the members of a small one, where no peer asks for them.
	one := edit(small(), func(c *api.Config) { c.Confed, c.Members = 100, []uint32{4, 5, 7} })
	for _, how := range []func(c *api.Config){
		func(c *api.Config) { c.AS = 5 },
		func(c *api.Config) { c.Members = c.Members[:2] },
		func(c *api.Config) { c.Members = c.Members[:1] },
		func(c *api.Config) { c.Members[2]++ },
		func(c *api.Config) { c.Members = c.Members[1:] },
		func(c *api.Config) { c.Members[1], c.Members[2] = 6, 7 },
		func(c *api.Config) { c.Confed, c.Members = 0, nil },
	} {
		c := edit(one, how)
		mustBe(t, one, c)
		wantPlan(t, one, c, api.Plan{All: true}, api.OK)
	}
	// A list that is empty is as one that is nil.
	c := edit(small(), func(c *api.Config) {
		c.Members, c.Peers, c.Vrfs, c.Statics = []uint32{}, []api.Peer{}, []api.Vrf{}, []api.Static{}
	})
	wantPlan(t, small(), c, api.Plan{}, api.OK)
}

// Peers come, go, stay and stand in another order.
func TestP19_3Peers(t *testing.T) {
	a, b, c, d := called("a", 2), called("b", 3), called("c", 4), called("d", 5)
	wantPlan(t, pair(), pair(), api.Plan{}, api.OK)
	wantPlan(t, pair(), pair(c, a, b), api.Plan{Added: []string{"a", "b", "c"}}, api.OK)
	wantPlan(t, pair(a, b, c), pair(c, a, b), api.Plan{}, api.OK)
	wantPlan(t, pair(a, b), pair(d, c), api.Plan{Added: []string{"c", "d"}, Removed: []string{"a", "b"}}, api.OK)
	wantPlan(t, pair(c, b, a), pair(b), api.Plan{Removed: []string{"a", "c"}}, api.OK)
	wantPlan(t, pair(a, b, c, d), pair(d, a), api.Plan{Removed: []string{"b", "c"}}, api.OK)
	// It is the Name that makes two peers one, whatever else they have.
	wantPlan(t, pair(a), pair(called("b", 2)), api.Plan{Added: []string{"b"}, Removed: []string{"a"}}, api.OK)
	wantPlan(t, pair(a, b), pair(called("b", 2), called("a", 3)), api.Plan{Reset: []string{"a", "b"}}, api.OK)
	wantPlan(t, pair(a, b), pair(called("a", 3), c), api.Plan{Reset: []string{"a"}, Added: []string{"c"}, Removed: []string{"b"}}, api.OK)
	wantPlan(t, pair(called("a", 2), called("aa", 3), called("a0", 4)), pair(called("a-", 2), called("aa", 3), called("ab", 4)), api.Plan{Added: []string{"a-", "ab"}, Removed: []string{"a", "a0"}}, api.OK)
}

// Each field of a peer by itself, as far as it may be.
func TestP19_3PeerFields(t *testing.T) {
	base := func() api.Config {
		c := full()
		c.Peers[0].In = "q"
		return c
	}
	for i := range base().Peers {
		told := [3]int{}
		try := func(want int, how func(p *api.Peer)) {
			c := edit(base(), func(c *api.Config) { how(&c.Peers[i]) })
			name := base().Peers[i].Name
			if conf.Check(c) != api.OK || c.Peers[i].Name != name || same(c, base()) {
				return
			}
			told[want]++
			p := api.Plan{Soft: []string{name}}
			if want == 2 {
				p = api.Plan{Reset: []string{name}}
			}
			wantPlan(t, base(), c, p, api.OK)
		}
		for _, in := range []string{"", "p", "q", "r"} {
			try(1, func(p *api.Peer) { p.In = in })
			try(1, func(p *api.Peer) { p.Out = in })
			try(2, func(p *api.Peer) { p.In, p.Retry = in, p.Retry/2+7 })
			for _, out := range []string{"", "p", "q", "r"} {
				try(1, func(p *api.Peer) { p.In, p.Out, p.SelfNext = in, out, !p.SelfNext })
			}
		}
		try(1, func(p *api.Peer) { p.SelfNext = !p.SelfNext })
		for _, hard := range hardEdits() {
			if p := base().Peers[i]; write(change(p, hard)) == write(p) {
				continue // what it puts is there already
			}
			try(2, hard)
			try(2, func(p *api.Peer) { hard(p); p.SelfNext = !p.SelfNext })
		}
		if told[1] < 15 || told[2] < 10 {
			t.Errorf("the peer %d: %v", i, told)
		}
	}
}

// A peer that is alike in all that it has itself is asked anew where a policy that it names means something else.
func TestP19_3Meaning(t *testing.T) {
	in := change(called("a", 2), func(p *api.Peer) { p.In = "r" })
	out := change(called("b", 3), func(p *api.Peer) { p.Out = "r" })
	both := change(called("c", 4), func(p *api.Peer) { p.In, p.Out = "r", "r" })
	mixed := change(called("d", 5), func(p *api.Peer) { p.In, p.Out = "s", "r" })
	other := change(called("e", 6), func(p *api.Peer) { p.In, p.Out = "s", "s" })
	none := called("f", 7)
	c := edit(pair(none, mixed, both, other, out, in), func(c *api.Config) { c.Rules = append(c.Rules, rule("s", iff(cond(api.IfComm, "m")))) })
	c.Sets = append(c.Sets, comms("m", 1), comms("o", 1))
	mustBe(t, c)
	for i, how := range []func(c *api.Config){
		func(c *api.Config) { c.Rules[0].Else = true },
		func(c *api.Config) { c.Rules[0].Terms = nil },
		func(c *api.Config) { c.Rules[0].Terms = append(c.Rules[0].Terms, iff()) },
		func(c *api.Config) { c.Rules[0].Terms[0].Conds[0].Not = true },
		func(c *api.Config) { c.Rules[0].Terms[0].Conds[0].Name = "m" },
		func(c *api.Config) { c.Rules[0].Terms[0].Actions = []api.Action{{Kind: api.DoAccept}} },
		func(c *api.Config) { c.Sets[0].Comms = append(c.Sets[0].Comms, 2) },
		func(c *api.Config) { c.Sets[0].Comms = nil },
		func(c *api.Config) { c.Sets[0].Comms[0] = 7 },
		// The sets have changed their names about: r's is another one, of the same entries as m's.
		func(c *api.Config) { c.Sets[0].Comms[0]++; c.Sets[2].Comms = nil },
	} {
		d := edit(c, how)
		mustBe(t, d)
		wantPlan(t, c, d, api.Plan{Soft: []string{"a", "b", "c", "d"}}, api.OK)
		// Hard ahead of that; one that is soft by itself is told once.
		e := edit(d, func(c *api.Config) { c.Peers[2].Hold++; c.Peers[5].SelfNext = true })
		wantPlan(t, c, e, api.Plan{Reset: []string{"c"}, Soft: []string{"a", "b", "d"}}, api.OK)
		// One that has come is just one that has come.
		f := edit(c, func(c *api.Config) { c.Peers = c.Peers[3:] })
		wantPlan(t, f, d, api.Plan{Added: []string{"c", "d", "f"}, Soft: []string{"a", "b"}}, api.OK)
		if t.Failed() {
			t.Fatalf("the change %d", i)
		}
	}
	// What nobody names, and another order.
	for i, how := range []func(c *api.Config){
		func(c *api.Config) { c.Sets[2].Comms = nil },
		func(c *api.Config) { c.Sets = c.Sets[:2] },
		func(c *api.Config) { c.Sets = append(c.Sets, comms("z", 1)) },
		func(c *api.Config) { c.Rules = append(c.Rules, rule("z")) },
		func(c *api.Config) { slices.Reverse(c.Sets) },
		func(c *api.Config) { slices.Reverse(c.Rules) },
		func(c *api.Config) { slices.Reverse(c.Peers) },
		func(c *api.Config) { c.Rules[0].Terms[0].Conds = slices.Clip(c.Rules[0].Terms[0].Conds) },
	} {
		d := edit(c, how)
		mustBe(t, d)
		wantPlan(t, c, d, api.Plan{}, api.OK)
		if t.Failed() {
			t.Fatalf("the change %d of what nobody names", i)
		}
	}
	// Both policies, and the one of m alone.
	wantPlan(t, c, edit(c, func(c *api.Config) { c.Rules[0].Else, c.Sets[1].Comms = true, nil }), api.Plan{Soft: []string{"a", "b", "c", "d", "e"}}, api.OK)
	wantPlan(t, c, edit(c, func(c *api.Config) { c.Sets[1].Comms = nil }), api.Plan{Soft: []string{"d", "e"}}, api.OK)
}

// A peer that names another policy than it did is soft by that, be both alike in what they mean, or be one gone.
func TestP19_3OldAndNew(t *testing.T) {
	asks := func(name string) api.Peer {
		return change(called("a", 2), func(p *api.Peer) { p.In = name })
	}
	hard := func(name string) api.Peer { return change(asks(name), func(p *api.Peer) { p.Mrai++ }) }
	of := func(p api.Peer, l ...api.Policy) api.Config {
		c := small()
		c.Peers, c.Rules = []api.Peer{p}, l
		mustBe(t, c)
		return c
	}
	soft, reset := api.Plan{Soft: []string{"a"}}, api.Plan{Reset: []string{"a"}}
	r, s := rule("r"), rule("s")
	wantPlan(t, of(asks("r"), r, s), of(asks("s"), r, s), soft, api.OK)
	wantPlan(t, of(asks("r"), r), of(asks("s"), s), soft, api.OK)
	wantPlan(t, of(asks("r"), r), of(asks("")), soft, api.OK)
	wantPlan(t, of(asks("r"), r), of(hard("s"), s), reset, api.OK)
	wantPlan(t, of(asks("r"), r), of(hard("r"), rule("r", iff())), reset, api.OK)
	wantPlan(t, of(asks("r"), r), of(asks("r"), r, s), api.Plan{}, api.OK)
	wantPlan(t, of(asks(""), r), of(asks(""), s), api.Plan{}, api.OK)
	wantPlan(t, of(asks("r"), r, s), of(asks("r"), s, rule("r", iff())), soft, api.OK)
}

// Vrfs and Statics count in their order, and are nothing to the peers.
func TestP19_3VrfsStatics(t *testing.T) {
	c := full()
	for i, how := range []func(c *api.Config){
		func(c *api.Config) { c.Vrfs[0].RD = 99 },
		func(c *api.Config) { c.Vrfs[2].RD++ },
		func(c *api.Config) { c.Vrfs[1].Name = "y" },
		func(c *api.Config) { c.Vrfs = append(c.Vrfs, api.Vrf{Name: "y", RD: 9}) },
		func(c *api.Config) { c.Vrfs = c.Vrfs[:2] },
		func(c *api.Config) { slices.Reverse(c.Vrfs) },
		func(c *api.Config) { c.Vrfs[1], c.Vrfs[2] = c.Vrfs[2], c.Vrfs[1] },
		func(c *api.Config) { c.Vrfs[0].Import = c.Vrfs[0].Import[:2] },
		func(c *api.Config) { c.Vrfs[0].Import = slices.Insert(c.Vrfs[0].Import, 2, target(65001, 1)) },
		func(c *api.Config) { c.Vrfs[0].Import = c.Vrfs[0].Import[1:] },
		func(c *api.Config) { c.Vrfs[0].Import[1]-- },
		func(c *api.Config) { c.Vrfs[0].Import = nil },
		func(c *api.Config) { c.Vrfs[0].Import, c.Vrfs[0].Export = c.Vrfs[0].Export, c.Vrfs[0].Import },
		func(c *api.Config) { c.Vrfs[2].Export[0]++ },
		func(c *api.Config) { c.Vrfs[2].Import, c.Vrfs[2].Export = c.Vrfs[2].Export, nil },
	} {
		d := edit(c, how)
		mustBe(t, d)
		wantPlan(t, c, d, api.Plan{Vrfs: true}, api.OK)
		wantPlan(t, c, edit(d, func(c *api.Config) { c.Statics = c.Statics[1:] }), api.Plan{Vrfs: true, Statics: true}, api.OK)
		wantPlan(t, c, edit(d, func(c *api.Config) { c.Peers[3].Mrai = 0 }), api.Plan{Vrfs: true, Reset: []string{"d"}}, api.OK)
		if t.Failed() {
			t.Fatalf("the change %d of the Vrfs", i)
		}
	}
	for i, how := range []func(c *api.Config){
		func(c *api.Config) { c.Statics = nil },
		func(c *api.Config) { c.Statics = c.Statics[:2] },
		func(c *api.Config) { slices.Reverse(c.Statics) },
		func(c *api.Config) { c.Statics[0], c.Statics[1] = c.Statics[1], c.Statics[0] },
		func(c *api.Config) { c.Statics[0].Next = host(77) },
		func(c *api.Config) { c.Statics[2].Prefix.Len++ },
		func(c *api.Config) { c.Statics[1].Prefix = api.Prefix{Fam: api.V4, Addr: "\x0b\x00\x00\x00", Len: 8} },
		func(c *api.Config) { c.Statics[1].Vrf = "w" },
		func(c *api.Config) { c.Statics = append(c.Statics, api.Static{Vrf: "x", Prefix: ten, Next: next}) },
	} {
		d := edit(c, how)
		mustBe(t, d)
		wantPlan(t, c, d, api.Plan{Statics: true}, api.OK)
		wantPlan(t, c, edit(d, func(c *api.Config) { c.Peers[0].Out = "r" }), api.Plan{Statics: true, Soft: []string{"p2"}}, api.OK)
		if t.Failed() {
			t.Fatalf("the change %d of the Statics", i)
		}
	}
	empty := edit(c, func(c *api.Config) {
		c.Vrfs[1].Import, c.Vrfs[1].Export, c.Vrfs[2].Import = []uint64{}, []uint64{}, []uint64{}
	})
	wantPlan(t, c, empty, api.Plan{}, api.OK)
}

// Lists rise byte by byte, however the peers stand: of each kind five of them, as many as a configuration may have.
func TestP19_3Order(t *testing.T) {
	names := []string{"a", "a-", "a--", "a-b", "a0", "a00", "a9", "aa", "aaa", "ab", "b", "b-", "b0a", "c9", "m", "m0", "mm", "y9", "z", "z-", "z9", "zz", "zzz"}
	r := rand.New(rand.NewSource(194))
	for range 500 {
		var a, b []api.Peer
		var of [4][]string
		for k, i := range r.Perm(len(names))[:20] {
			p := called(names[i], k+2)
			q := p
			of[k%4] = append(of[k%4], p.Name)
			switch k % 4 {
			case 0:
				a = append(a, p)
				continue
			case 1:
				b = append(b, p)
				continue
			case 2:
				q.SelfNext = true
			default:
				q.Retry++
			}
			a, b = append(a, p), append(b, q)
		}
		r.Shuffle(len(b), func(i, k int) { b[i], b[k] = b[k], b[i] })
		for _, l := range of {
			slices.Sort(l)
		}
		mustBe(t, pair(a...), pair(b...))
		wantPlan(t, pair(a...), pair(b...), api.Plan{Removed: of[0], Added: of[1], Soft: of[2], Reset: of[3]}, api.OK)
	}
}

// kinds tells what an answer has in it.
func kinds(p api.Plan, err api.Errno) []string {
	var l []string
	for _, k := range []struct {
		name string
		is   bool
	}{
		{"error", err != api.OK}, {"All", p.All}, {"Vrfs", p.Vrfs}, {"Statics", p.Statics},
		{"Reset", len(p.Reset) > 0}, {"Soft", len(p.Soft) > 0}, {"Added", len(p.Added) > 0}, {"Removed", len(p.Removed) > 0},
		{"nothing", err == api.OK && same(p, api.Plan{})}, {"many", len(p.Soft)+len(p.Reset) > 2},
	} {
		if k.is {
			l = append(l, k.name)
		}
	}
	return l
}

func wantSeen(t *testing.T, seen map[string]int, least int, names ...string) {
	t.Helper()
	for _, n := range names {
		if seen[n] < least {
			t.Errorf("%s: %d times, want %d: %v", n, seen[n], least, seen)
		}
	}
}

// Each number, text, bool and list of a configuration is turned by itself.
func TestP19_3Edits(t *testing.T) {
	c := full()
	c.Peers[0].In = "r"
	mustBe(t, c)
	seen, by := map[string]int{}, map[string]map[string]bool{}
	all := 0
	edits(c, func(what string, d api.Config) {
		all++
		want, wantErr := modelPlan(c, d)
		if p, err := differ.Plan(c, d); err != wantErr || !same(p, want) {
			t.Errorf("%s: Plan %+v, %d, want %+v, %d", what, p, err, want, wantErr)
		}
		if wantErr == api.OK || all%50 == 0 {
			wantPlan(t, c, d, want, wantErr)
		}
		for _, k := range kinds(want, wantErr) {
			seen[k]++
			top, _, _ := strings.Cut(strings.Fields(what)[0][1:]+".", ".")
			if by[k] == nil {
				by[k] = map[string]bool{}
			}
			by[k][strings.TrimSuffix(top, "[]")] = true
		}
	})
	wantSeen(t, seen, 5, "error", "All", "Vrfs", "Statics", "Reset", "Soft", "Added", "Removed", "nothing")
	for k, want := range map[string]string{
		"All": "[AS Addr Cluster Confed High Id Low Members]", "Vrfs": "[Vrfs]", "Statics": "[Statics]",
		"Reset": "[Peers]", "Added": "[Peers]", "Removed": "[Peers]", "Soft": "[Peers Rules Sets]",
	} {
		// AS is turned by itself nowhere, where the peers ask for it.
		if got := fmt.Sprint(rising(by[k])); got != want && got != strings.Replace(want, "AS ", "", 1) {
			t.Errorf("%s comes by %s, want %s", k, got, want)
		}
	}
}

// mayBe is a configuration of few names and parts that may be.
func mayBe(r *rand.Rand) api.Config {
	c := small()
	coin := func() bool { return r.Intn(2) == 0 }
	if r.Intn(40) == 0 {
		c.Cluster = 5
	}
	for _, s := range []string{"m", "n"} {
		set := comms(s)
		if coin() {
			set = comms(s, uint32(r.Intn(2)))
		}
		c.Sets = append(c.Sets, set)
	}
	rules := []string{""}
	for _, n := range []string{"r", "s", "t"} {
		if r.Intn(4) == 0 {
			continue
		}
		p := rule(n)
		for range r.Intn(3) {
			name := []string{"m", "n"}[r.Intn(2)]
			if coin() {
				p.Terms = append(p.Terms, iff(cond(api.IfComm, name)))
			} else {
				p.Terms = append(p.Terms, then(del(name)))
			}
		}
		c.Rules = append(c.Rules, p)
		rules = append(rules, n)
	}
	vrfs := []string{""}
	for i, n := range []string{"v", "w"} {
		if r.Intn(4) > 0 {
			c.Vrfs = append(c.Vrfs, api.Vrf{Name: n, RD: uint64(i + 1)})
			vrfs = append(vrfs, n)
		}
	}
	for _, v := range vrfs {
		if r.Intn(3) > 0 {
			c.Statics = append(c.Statics, api.Static{Vrf: v, Prefix: ten, Next: next})
		}
	}
	for i, n := range []string{"a", "b", "c", "d"} {
		if r.Intn(5) == 0 {
			continue
		}
		p := called(n, i+2)
		p.In, p.Out = rules[r.Intn(len(rules))], rules[r.Intn(len(rules))]
		p.SelfNext = r.Intn(5) == 0
		if r.Intn(3) == 0 {
			p.Hold = 30
		}
		c.Peers = append(c.Peers, p)
	}
	r.Shuffle(len(c.Peers), func(i, k int) { c.Peers[i], c.Peers[k] = c.Peers[k], c.Peers[i] })
	return c
}

// turn turns something of a configuration.
func turn(r *rand.Rand, c api.Config) api.Config {
	d, other := clone(c), mayBe(r)
	switch r.Intn(9) {
	case 0:
		d.Sets = other.Sets
	case 1:
		d.Rules = other.Rules
	case 2:
		d.Peers = other.Peers
	case 3:
		d.Vrfs = other.Vrfs
	case 4:
		d.Statics = other.Statics
	case 5:
		d.Id += uint32(r.Intn(2))
	case 6:
		if i := r.Intn(4); i < len(d.Rules) {
			d.Rules[i].Else = !d.Rules[i].Else
		}
	case 7:
		if i := r.Intn(4); i < len(d.Peers) {
			d.Peers[i].SelfNext = !d.Peers[i].SelfNext
		}
	default:
		d = other
	}
	return d
}

func TestP19_3Model(t *testing.T) {
	r := rand.New(rand.NewSource(195))
	seen := map[string]int{}
	for range 6000 {
		a := mayBe(r)
		b := a
		for range r.Intn(3) {
			b = turn(r, b)
		}
		for _, k := range kinds(wantPlanAsModel(t, a, b)) {
			seen[k]++
		}
	}
	wantSeen(t, seen, 100, "All", "Vrfs", "Statics", "Reset", "Soft", "Added", "Removed", "nothing", "many")
}

// From a configuration to itself there is nothing to do. (There and back, and that no peer is told twice, is looked at wherever a plan is asked for.)
func TestP19_4(t *testing.T) {
	r := rand.New(rand.NewSource(196))
	for range 3000 {
		c := mayBe(r)
		mustBe(t, c)
		wantPlan(t, c, c, api.Plan{}, api.OK)
		wantPlan(t, c, clone(c), api.Plan{}, api.OK)
		b := turn(r, turn(r, c))
		there, err := differ.Plan(c, b)
		back, backErr := differ.Plan(b, c)
		if err != backErr || there.All != back.All || there.Vrfs != back.Vrfs || there.Statics != back.Statics {
			t.Fatalf("%+v, %d there, %+v, %d back", there, err, back, backErr)
		}
		if !slices.Equal(there.Added, back.Removed) || !slices.Equal(there.Removed, back.Added) || !slices.Equal(there.Reset, back.Reset) {
			t.Fatalf("%+v there, %+v back", there, back)
		}
		told := slices.Concat(there.Added, there.Removed, there.Reset, there.Soft)
		slices.Sort(told)
		if len(slices.Compact(slices.Clone(told))) != len(told) {
			t.Fatalf("a peer is told twice: %+v", there)
		}
	}
	for _, c := range []api.Config{small(), full()} {
		wantPlan(t, c, c, api.Plan{}, api.OK)
	}
}

// A peer that is in no list is alike in both, and so are the policies that it names.
func TestP19_5(t *testing.T) {
	r := rand.New(rand.NewSource(197))
	untold := 0
	for range 5000 {
		a := mayBe(r)
		b := turn(r, turn(r, a))
		p, err := differ.Plan(a, b)
		if err != api.OK || p.All {
			continue
		}
		told := slices.Concat(p.Added, p.Removed, p.Reset, p.Soft)
		meant := differ.Policies(a, b)
		for _, x := range a.Peers {
			if slices.Contains(told, x.Name) {
				continue
			}
			untold++
			y, is := named(b, x.Name)
			if !is || differ.Peer(x, y) != 0 || write(x) != write(y) {
				t.Fatalf("%q is not alike in %s and %s", x.Name, short(a), short(b))
			}
			for _, n := range []string{x.In, x.Out} {
				if slices.Contains(meant, n) || modelMeaning(a, n) != modelMeaning(b, n) {
					t.Fatalf("%q names %q, whose meaning differs in %s and %s", x.Name, n, short(a), short(b))
				}
			}
		}
		for _, y := range b.Peers {
			if _, is := named(a, y.Name); !is && !slices.Contains(told, y.Name) {
				t.Fatalf("%q has come untold", y.Name)
			}
		}
	}
	if untold < 2000 {
		t.Errorf("%d peers are in no list", untold)
	}
}
