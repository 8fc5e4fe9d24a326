package differ_test

import (
	"fmt"
	"math/rand"
	"slices"
	"strings"
	"testing"

	"herald/api"
	"herald/differ"
)

func cond(kind int, name string) api.Cond        { return api.Cond{Kind: kind, Name: name} }
func del(name string) api.Action                 { return api.Action{Kind: api.DoDel, Name: name} }
func rule(name string, l ...api.Term) api.Policy { return api.Policy{Name: name, Terms: l} }
func iff(l ...api.Cond) api.Term {
	return api.Term{Conds: l, Actions: []api.Action{{Kind: api.DoReject}}}
}
func then(l ...api.Action) api.Term { return api.Term{Actions: l} }

func rules(l ...api.Policy) api.Config { return api.Config{Rules: l} }

func with(c api.Config, l ...api.Set) api.Config {
	c.Sets = append(slices.Clone(c.Sets), l...)
	return c
}

func comms(name string, l ...uint32) api.Set {
	return api.Set{Name: name, Kind: api.SetComm, Comms: l}
}

func TestP19_2Examples(t *testing.T) {
	other := rule("s")
	other.Else = true
	wantPolicies(t, rules(rule("r"), rule("s")), rules(other, rule("t")), "r", "s", "t")
}

// A policy that just one configuration has differs, whatever it is.
func TestP19_2One(t *testing.T) {
	wantPolicies(t, api.Config{}, api.Config{})
	wantPolicies(t, api.Config{}, rules(rule("r")), "r")
	wantPolicies(t, api.Config{}, rules(api.Policy{}), "")
	wantPolicies(t, rules(api.Policy{}), rules(api.Policy{}))
	wantPolicies(t, rules(rule("r")), rules(rule("r"), rule("s")), "s")
	wantPolicies(t, rules(rule("r")), rules(rule("rr")), "r", "rr")
	wantPolicies(t, rules(rule("r")), rules(rule("R")), "R", "r")
	wantPolicies(t, rules(rule("r"), rule("s")), rules(rule("s"), rule("r")))
	wantPolicies(t, api.Config{Rules: []api.Policy{}}, api.Config{})
	// Whatever else the configurations have.
	a, b := full(), small()
	a.Rules, b.Rules = []api.Policy{rule("r", iff(cond(api.IfFam, "")))}, []api.Policy{rule("r", iff(cond(api.IfFam, "")))}
	wantPolicies(t, a, b)
}

// base is a policy by which each of its parts is looked at.
func base() api.Policy {
	p := rule("r",
		api.Term{Conds: []api.Cond{cond(api.IfComm, "a"), {Kind: api.IfLength, N: 3}, {Kind: api.IfPeer, Not: true, Name: "n"}}, Actions: []api.Action{{Kind: api.DoPref, N: 7}, {Kind: api.DoNext, Addr: next}, {Kind: api.DoAccept}}},
		then(api.Action{Kind: api.DoMed, N: 1}, api.Action{Kind: api.DoReject}),
		api.Term{},
	)
	p.Else = true
	return p
}

func TestP19_2Parts(t *testing.T) {
	for i, how := range []func(p *api.Policy){
		func(p *api.Policy) { p.Else = false },
		func(p *api.Policy) { p.Terms = nil },
		func(p *api.Policy) { p.Terms = p.Terms[:2] },
		func(p *api.Policy) { p.Terms = p.Terms[1:] },
		func(p *api.Policy) { p.Terms = append(p.Terms, api.Term{}) },
		func(p *api.Policy) { p.Terms[0], p.Terms[1] = p.Terms[1], p.Terms[0] },
		func(p *api.Policy) { p.Terms[1], p.Terms[2] = p.Terms[2], p.Terms[1] },
		func(p *api.Policy) { l := p.Terms[0].Conds; l[0], l[1] = l[1], l[0] },
		func(p *api.Policy) { l := p.Terms[0].Conds; l[1], l[2] = l[2], l[1] },
		func(p *api.Policy) { p.Terms[0].Conds = p.Terms[0].Conds[:2] },
		func(p *api.Policy) { p.Terms[0].Conds = append(p.Terms[0].Conds, p.Terms[0].Conds[2]) },
		func(p *api.Policy) { p.Terms[0].Conds[0].Not = true },
		func(p *api.Policy) { p.Terms[0].Conds[2].Not = false },
		func(p *api.Policy) { p.Terms[0].Conds[0].Kind = api.IfPeer },
		func(p *api.Policy) { p.Terms[0].Conds[0].Name = "b" },
		func(p *api.Policy) { p.Terms[0].Conds[1].N = 4 },
		func(p *api.Policy) { l := p.Terms[0].Actions; l[0], l[1] = l[1], l[0] },
		func(p *api.Policy) { l := p.Terms[1].Actions; l[0], l[1] = l[1], l[0] },
		func(p *api.Policy) { p.Terms[0].Actions = p.Terms[0].Actions[:2] },
		func(p *api.Policy) { p.Terms[1].Actions = append(p.Terms[1].Actions, p.Terms[1].Actions[1]) },
		func(p *api.Policy) { p.Terms[0].Actions[0].Kind = api.DoMed },
		func(p *api.Policy) { p.Terms[0].Actions[0].N = 8 },
		func(p *api.Policy) { p.Terms[0].Actions[1].Addr = host(8) },
		func(p *api.Policy) { p.Terms[0].Actions[2].Kind = api.DoReject },
		func(p *api.Policy) { p.Terms[0].Actions[0].Name = "x" },
		func(p *api.Policy) { p.Terms[0].Actions = nil },
	} {
		p := clone(base())
		how(&p)
		wantPolicies(t, rules(base()), rules(p), "r")
		wantPolicies(t, rules(p), rules(p))
		// Another one of the same parts stays alike.
		wantPolicies(t, rules(rule("q"), base(), rule("s")), rules(rule("q"), p, rule("s")), "r")
		if t.Failed() {
			t.Fatalf("the change %d", i)
		}
	}
	wantPolicies(t, rules(base()), rules(base()))
	empty := rule("r", api.Term{Conds: []api.Cond{}, Actions: []api.Action{}})
	wantPolicies(t, rules(empty), rules(rule("r", api.Term{})))
	wantPolicies(t, rules(rule("r")), rules(api.Policy{Name: "r", Terms: []api.Term{}}))
}

// namings are policies r that name the set n in each way, at each place.
func namings() []api.Policy {
	var l []api.Policy
	other := api.Cond{Kind: api.IfLength, N: 1}
	for _, kind := range []int{api.IfPrefix, api.IfComm, api.IfPath} {
		c := cond(kind, "n")
		turned := c
		turned.Not = true
		l = append(l, rule("r", iff(c)), rule("r", iff(turned)), rule("r", iff(other, c)), rule("r", iff(c, other)), rule("r", iff(), iff(c)), rule("r", iff(c), iff()), rule("r", iff(), iff(other, c, other), then()), rule("r", iff(c, c)))
		odd := c
		odd.N = -7
		l = append(l, rule("r", iff(odd)))
	}
	med := api.Action{Kind: api.DoMed}
	return append(l, rule("r", then(del("n"))), rule("r", then(med, del("n"))), rule("r", then(del("n"), med)), rule("r", iff(other), then(med, del("n"), med)), rule("r", then(del("n")), iff(other)), rule("r", then(api.Action{Kind: api.DoDel, Name: "n", N: 9, Addr: "x"})), rule("r", iff(cond(api.IfComm, "n")), then(del("n"))), rule("r", iff(cond(api.IfComm, "m"), cond(api.IfComm, "n")), then(del("o"))))
}

// Whatever kind the named set has, it belongs to what the policy means.
func TestP19_2Sets(t *testing.T) {
	was := api.Set{Name: "n", Kind: api.SetPrefix, Items: []api.Item{{Prefix: ten, Low: 8, High: 9}, {Prefix: six, Low: 16, High: 17}}, Comms: []uint32{1, 2}, Paths: [][]api.Atom{{{Kind: api.AtomAS, AS: 1}, {Kind: api.AtomAny}}, {}}}
	changes := []func(s *api.Set){
		func(s *api.Set) { s.Kind = api.SetComm }, func(s *api.Set) { s.Kind = api.SetPath }, func(s *api.Set) { s.Kind = -1 },
		func(s *api.Set) { s.Items = append(s.Items, api.Item{}) }, func(s *api.Set) { s.Items = s.Items[:1] }, func(s *api.Set) { s.Items = nil }, func(s *api.Set) { slices.Reverse(s.Items) },
		func(s *api.Set) { s.Items[1].Low-- }, func(s *api.Set) { s.Items[0].High++ }, func(s *api.Set) { s.Items[0].Prefix.Len++ }, func(s *api.Set) { s.Items[1].Prefix.RD++ },
		func(s *api.Set) { s.Items[1].Prefix.Addr += "x" }, func(s *api.Set) { s.Items[1].Prefix.Fam++ },
		func(s *api.Set) { s.Comms = append(s.Comms, 2) }, func(s *api.Set) { s.Comms = s.Comms[1:] }, func(s *api.Set) { slices.Reverse(s.Comms) }, func(s *api.Set) { s.Comms[1] = 0 },
		func(s *api.Set) { s.Paths = append(s.Paths, nil) }, func(s *api.Set) { s.Paths = s.Paths[:1] }, func(s *api.Set) { slices.Reverse(s.Paths) },
		func(s *api.Set) { slices.Reverse(s.Paths[0]) }, func(s *api.Set) { s.Paths[0][0].AS = 2 }, func(s *api.Set) { s.Paths[0][1].Kind = 9 }, func(s *api.Set) { s.Paths[0] = s.Paths[0][:1] },
		func(s *api.Set) { s.Paths[1] = []api.Atom{{}} },
		func(s *api.Set) { s.Name = "nn" }, func(s *api.Set) { s.Name = "" },
	}
	empty := clone(was)
	empty.Paths[1] = nil
	for i, p := range namings() {
		c := rules(p)
		wantPolicies(t, c, c) // missing in both
		wantPolicies(t, with(c, was), with(c, empty))
		wantPolicies(t, c, with(c, was), "r")
		wantPolicies(t, c, with(c, api.Set{Name: "n"}), "r") // there, though it holds nothing
		wantPolicies(t, with(c, comms("x", 1)), with(c, comms("x", 1), was), "r")
		for k, how := range changes {
			s := clone(was)
			how(&s)
			wantPolicies(t, with(c, was), with(c, s), "r")
			wantPolicies(t, with(c, s), with(c, s))
			if t.Failed() {
				t.Fatalf("the policy %d, the change %d", i, k)
			}
		}
	}
}

// Sets that the policy does not name count for nothing, neither do names of what is no set.
func TestP19_2Unnamed(t *testing.T) {
	l := []api.Policy{rule("r"), rule("n"), rule("r", iff(cond(api.IfPeer, "n"))), rule("r", iff(cond(api.IfComm, "m")), then(del("o")))}
	for kind := -1; kind < 12; kind++ {
		if kind != api.IfPrefix && kind != api.IfComm && kind != api.IfPath {
			l = append(l, rule("r", iff(cond(kind, "n"))))
		}
		if kind != api.DoDel {
			l = append(l, rule("r", then(api.Action{Kind: kind, Name: "n", N: 1, Addr: "n"})))
		}
	}
	for _, p := range l {
		c := rules(p)
		wantPolicies(t, c, with(c, comms("n", 1)))
		wantPolicies(t, with(c, comms("n", 1)), with(c, comms("n", 2)))
		wantPolicies(t, with(c, comms("n", 1)), with(c, api.Set{Name: "n"}))
		wantPolicies(t, with(c, comms("nn")), with(c, comms("N")))
	}
	// Of two policies just the one that names it differs; the order in which sets stand is none.
	c := rules(rule("a", iff(cond(api.IfComm, "n"))), rule("b", iff(cond(api.IfComm, "m"))))
	wantPolicies(t, with(c, comms("m", 1), comms("n", 1)), with(c, comms("n", 2), comms("m", 1)), "a")
	wantPolicies(t, with(c, comms("m", 1), comms("n", 1)), with(c, comms("n", 1), comms("m", 1)))
	wantPolicies(t, with(c, comms("m", 1), comms("n", 1)), with(c, comms("n", 1), comms("m", 2)), "b")
	wantPolicies(t, with(c, comms("m", 1), comms("n", 1)), with(c, comms("n", 1)), "b")
	wantPolicies(t, with(c, comms("m", 1), comms("n", 2)), with(c, comms("n", 1), comms("m", 2)), "a", "b")
	// Sets that have changed their names about are others.
	wantPolicies(t, with(c, comms("m", 1), comms("n", 2)), with(c, comms("n", 1), comms("m", 2)), "a", "b")
	// A text without a byte is a name of a set, too.
	d := rules(rule("r", iff(cond(api.IfComm, ""))))
	wantPolicies(t, d, with(d, api.Set{}), "r")
	wantPolicies(t, with(d, api.Set{}), with(d, api.Set{}))
}

// Of several of one name the first one counts.
func TestP19_2First(t *testing.T) {
	x, y := rule("r"), rule("r", iff())
	wantPolicies(t, rules(x, y), rules(x))
	wantPolicies(t, rules(x, y), rules(x, rule("r", then())))
	wantPolicies(t, rules(x, y), rules(y, x), "r")
	wantPolicies(t, rules(x, x, y), rules(y), "r")
	wantPolicies(t, rules(x, y), rules(y), "r")
	wantPolicies(t, rules(x, x), rules(), "r")
	wantPolicies(t, rules(rule("q"), x, y, x), rules(x, rule("q"), x, y, y))
	c := rules(rule("r", iff(cond(api.IfComm, "n"))))
	wantPolicies(t, with(c, comms("n", 1), comms("n", 2)), with(c, comms("n", 1)))
	wantPolicies(t, with(c, comms("n", 1), comms("n", 2)), with(c, comms("n", 1), comms("n", 3)))
	wantPolicies(t, with(c, comms("n", 1), comms("n", 2)), with(c, comms("n", 2), comms("n", 1)), "r")
	wantPolicies(t, with(c, comms("n", 1), comms("n", 2)), with(c, comms("n", 2)), "r")
	wantPolicies(t, with(c, comms("n", 1), comms("n", 1)), c, "r")
	// The second policy of a name names nothing.
	d := rules(rule("r"), rule("r", iff(cond(api.IfComm, "n"))))
	wantPolicies(t, with(d, comms("n", 1)), with(d, comms("n", 2)))
}

// Names rise byte by byte, each once.
func TestP19_2Order(t *testing.T) {
	names := []string{"", "\x00", "\x00\x00", "-", "0", "A", "Z", "a", "a\x00", "a-", "a0", "aa", "ab", "b", "z", "z-", "é", "\xff", "\xff\x00", "\xff\xff"}
	slices.Sort(names)
	r := rand.New(rand.NewSource(192))
	for range 300 {
		l := slices.Clone(names)
		r.Shuffle(len(l), func(i, k int) { l[i], l[k] = l[k], l[i] })
		var a, b []api.Policy
		for i, n := range l {
			// Gone, come, turned; some stand in one list twice.
			p, q := rule(n), rule(n, iff())
			switch i % 3 {
			case 0:
				a = append(a, p)
			case 1:
				b = append(b, p)
			default:
				a, b = append(a, p), append(b, q)
			}
			if r.Intn(3) == 0 {
				a, b = append(a, a...), append(b, b...)
			}
			if len(a)+len(b) > 500 {
				a, b = firstsOf(a), firstsOf(b)
			}
		}
		if got := differ.Policies(rules(a...), rules(b...)); !slices.Equal(got, names) {
			t.Fatalf("Policies: %q, want %q", got, names)
		}
	}
}

func firstsOf(l []api.Policy) []api.Policy {
	seen := map[string]bool{}
	return slices.DeleteFunc(l, func(p api.Policy) bool {
		was := seen[p.Name]
		seen[p.Name] = true
		return was
	})
}

// Each number, text, bool and list of a configuration is turned by itself.
func TestP19_2Edits(t *testing.T) {
	c := full()
	c.Rules = append(c.Rules, base())
	turned := map[string]int{}
	all := 0
	edits(c, func(what string, d api.Config) {
		all++
		want := modelPolicies(c, d)
		if l, back := differ.Policies(c, d), differ.Policies(d, c); !slices.Equal(l, want) || !slices.Equal(back, want) {
			t.Errorf("%s: Policies %q and %q, want %q", what, l, back, want)
		}
		if all%20 == 0 {
			wantPolicies(t, c, d, want...)
		}
		if len(want) > 0 {
			field := strings.Fields(what)[0]
			turned[field]++
			if !strings.HasPrefix(field, ".Rules") && !strings.HasPrefix(field, ".Sets") {
				t.Errorf("%s: the model says %q", what, want)
			}
		}
	})
	if all < 2000 || len(turned) < 20 {
		t.Errorf("%d edits, %d fields by which a policy differs", all, len(turned))
	}
}

// anyConfig has rules and sets of few names and parts, that need not be ones that may be.
func anyConfig(r *rand.Rand) api.Config {
	names := []string{"a", "b", "c", ""}
	name := func() string { return names[r.Intn(len(names))] }
	var c api.Config
	for range r.Intn(5) {
		s := api.Set{Name: name(), Kind: r.Intn(2)}
		if r.Intn(2) == 0 {
			s.Comms = []uint32{uint32(r.Intn(2))}
		}
		c.Sets = append(c.Sets, s)
	}
	for range r.Intn(5) {
		p := api.Policy{Name: name(), Else: r.Intn(4) == 0}
		if r.Intn(2) == 0 {
			p.Terms = append(p.Terms, api.Term{Conds: []api.Cond{{Kind: 1 + r.Intn(4), Name: name()}}})
		}
		if r.Intn(2) == 0 {
			p.Terms = append(p.Terms, api.Term{Actions: []api.Action{{Kind: api.DoAdd + r.Intn(2), Name: name()}}})
		}
		c.Rules = append(c.Rules, p)
	}
	return c
}

func TestP19_2Model(t *testing.T) {
	r := rand.New(rand.NewSource(193))
	seen := map[string]int{}
	for range 20000 {
		a := anyConfig(r)
		b := anyConfig(r)
		switch r.Intn(3) {
		case 0:
			b.Rules = a.Rules
		case 1:
			b.Sets = a.Sets
		}
		want := modelPolicies(a, b)
		seen[fmt.Sprint(len(want))]++
		wantPolicies(t, a, b, want...)
		wantPolicies(t, a, a)
	}
	for _, n := range []string{"0", "1", "2", "3", "4"} {
		if seen[n] < 100 {
			t.Errorf("%s names are told %d times", n, seen[n])
		}
	}
}

// Long lists are gone through in time.
func TestP19_2Long(t *testing.T) {
	long := comms("n", make([]uint32, 30000)...)
	other := clone(long)
	other.Comms[29999] = 1
	var a, b api.Config
	a.Sets, b.Sets = []api.Set{long, comms("m", long.Comms...)}, []api.Set{comms("m", long.Comms...), other}
	var want []string
	for i := range 30000 {
		name := fmt.Sprintf("%05d", i)
		set := "m"
		if i%1000 == 7 {
			set = "n"
			want = append(want, name)
		}
		a.Rules = append(a.Rules, rule(name, iff(cond(api.IfComm, set), cond(api.IfComm, "m"))))
		a.Sets = append(a.Sets, comms(name))
	}
	b.Rules = slices.Clone(a.Rules)
	slices.Reverse(b.Rules)
	b.Sets = append(b.Sets, a.Sets[2:]...)
	if l := differ.Policies(a, b); !slices.Equal(l, want) {
		t.Errorf("Policies: %d names, want %d", len(l), len(want))
	}
}
