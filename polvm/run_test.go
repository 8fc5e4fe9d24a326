package polvm_test

import (
	"math/rand"
	"strconv"
	"testing"

	"herald/api"
	"herald/polc"
	"herald/polvm"
)

// compiled is the program of a policy of these terms' texts.
func compiled(t *testing.T, other bool, l []api.Set, texts ...string) api.Program {
	t.Helper()
	p := api.Policy{Name: "p", Else: other}
	for _, s := range texts {
		term, err := polc.Term(s)
		if err != nil {
			t.Fatalf("%q: %v", s, err)
		}
		p.Terms = append(p.Terms, term)
	}
	x, err := polc.Compile(p, l)
	if err != api.OK {
		t.Fatalf("%q: %d", texts, err)
	}
	if err := polvm.Check(x); err != api.OK {
		t.Errorf("Check of %q: %d", texts, err)
	}
	return x
}

func TestP17_4Examples(t *testing.T) {
	wantAccepted(t, compiled(t, false, nil, "if peer a then pref 200 and accept"), func(a *api.Attrs) { a.HasPref, a.Pref = true, 200 })
	wantRejected(t, compiled(t, false, nil, "if peer b then accept"))
	wantAccepted(t, compiled(t, true, nil, "if peer b then accept"), nil)
	wantRejected(t, compiled(t, true, sets(commSet("s", 0x10001)), "then add 1:1", "if comm s then reject"))
	wantAccepted(t, compiled(t, false, nil, "then prepend 2 and accept"), func(a *api.Attrs) { a.Path = path(seq(65000, 65000, 1, 2)) })
	// Of DOC.md's examples: of the neighbour b nothing.
	b := with(plain(), func(r *api.Route) { r.Peer = "b" })
	wantRun(t, compiled(t, false, nil, "if peer a then pref 200 and accept"), 65000, b, api.Attrs{}, false, api.OK)
}

// Each way to end: the attributes stand where the route is accepted alone.
func TestP17_4Ends(t *testing.T) {
	for _, r := range routes() {
		for _, c := range []struct {
			p  api.Program
			is bool
		}{
			{program(end(1)), true},
			{program(end(0)), false},
			{program(act(accept), end(0)), true},
			{program(act(reject), end(1)), false},
			{program(act(accept), act(reject), end(0)), true},
			{program(act(reject), act(accept), end(1)), false},
			{program(act(accept), pref(1), end(0)), true},
		} {
			want := api.Attrs{}
			if c.is {
				want = r.Attrs
			}
			wantRun(t, c.p, 65000, r, want, c.is, api.OK)
			wantRun(t, c.p, 0, r, want, c.is, api.OK)
		}
	}
	wantRejected(t, program(pref(1), act(do(api.DoAdd, 1)), end(0)))
	wantRejected(t, program(pref(1), act(do(api.DoAdd, 1)), act(reject), end(1)))
	wantAccepted(t, program(pref(1), act(noMed), end(1)), func(a *api.Attrs) { a.HasPref, a.Pref = true, 1 })
}

// A condition that holds goes on with the next one, one that does not at To, and what lies between is not done.
func TestP17_4To(t *testing.T) {
	for n := 2; n <= 7; n++ {
		for at := range n {
			for to := at + 1; to <= n; to++ {
				for _, c := range []api.Cond{yes, no} {
					var l []api.Ins
					var want []uint32
					for i := range n {
						l = append(l, act(do(api.DoAdd, uint32(i))))
						if i != at && (c == yes || i < at || i >= to) {
							want = append(want, uint32(i))
						}
					}
					l[at] = match(c, to)
					wantAccepted(t, program(append(l, end(1))...), func(a *api.Attrs) { a.Comms = want })
				}
			}
		}
	}
	// One behind the other, into the midst of what another one passes by, and onto one another.
	wantAccepted(t, program(match(no, 2), pref(1), match(no, 4), pref(2), match(yes, 6), pref(3), end(1)), func(a *api.Attrs) { a.HasPref, a.Pref = true, 3 })
	wantAccepted(t, program(match(no, 2), match(yes, 4), match(no, 4), act(reject), end(1)), nil)
	wantAccepted(t, program(match(yes, 4), match(no, 3), act(reject), act(accept), end(0)), nil)
	wantRejected(t, program(match(no, 3), act(accept), act(accept), end(0)))
	wantRejected(t, program(match(yes, 2), act(reject), end(1)))
}

// Each condition's kind decides, with Not and without.
func TestP17_4Conds(t *testing.T) {
	l := sets(setOf("p", 1), setOf("c", 2), setOf("w", 3))
	conds := []api.Cond{cond(api.IfPrefix, "p"), cond(api.IfComm, "c"), cond(api.IfPath, "w"), cond(api.IfPeer, "a"), cond(api.IfPeer, "b"), number(api.IfOrigin, 1), number(api.IfLength, 2), number(api.IfFam, api.V4), number(api.IfFam, api.Vpn4)}
	for _, r := range routes() {
		for _, c := range conds {
			for _, c := range []api.Cond{c, not(c)} {
				p := put(program(match(c, 2), act(accept), end(0)), l...)
				if truth(c, l, r) {
					wantRun(t, p, 1, r, r.Attrs, true, api.OK)
				} else {
					wantRun(t, p, 1, r, api.Attrs{}, false, api.OK)
				}
			}
		}
	}
}

// Conditions ask the route as the actions ahead have left it.
func TestP17_4ByThen(t *testing.T) {
	l := sets(commSet("s", 1), pathSet("w", pat("65000 *")), commSet("all", 1, 2, 3))
	for _, c := range []struct {
		a    api.Action
		cond api.Cond
	}{
		{do(api.DoAdd, 1), cond(api.IfComm, "s")},
		{do(api.DoOrigin, 2), number(api.IfOrigin, 2)},
		{do(api.DoPrepend, 1), cond(api.IfPath, "w")},
		{do(api.DoPrepend, 1), not(number(api.IfLength, 2))},
		{do(api.DoPrepend, 8), not(number(api.IfLength, 9))},
	} {
		wantRejected(t, put(program(match(c.cond, 2), act(accept), act(reject), end(1)), l...))
		x, _ := modelAct(c.a, l, 65000, plain())
		wantAccepted(t, put(program(act(c.a), match(c.cond, 3), act(accept), act(reject), end(0)), l...), func(a *api.Attrs) { *a = x.Attrs })
		// Passed by, the action has done nothing.
		wantRejected(t, put(program(match(no, 2), act(c.a), match(c.cond, 4), act(accept), end(0)), l...))
	}
	wantAccepted(t, put(program(act(do(api.DoAdd, 1)), act(del("all")), match(cond(api.IfComm, "s"), 4), act(reject), end(1)), l...), nil)
	wantAccepted(t, put(program(act(do(api.DoAdd, 9)), act(do(api.DoAdd, 2)), act(del("all")), end(1)), l...), func(a *api.Attrs) { a.Comms = []uint32{9} })
	// What is neither asked nor changed stays: the family, the neighbour.
	wantAccepted(t, program(act(next("0123456789abcdef")), match(number(api.IfFam, api.V4), 4), match(cond(api.IfPeer, "a"), 4), act(accept), end(0)), func(a *api.Attrs) { a.Next = "0123456789abcdef" })
}

// Each action does in a run what Act does, and several one behind the other.
func TestP17_4Actions(t *testing.T) {
	l := sets(setOf("s", api.SetComm))
	actions := []api.Action{do(api.DoPref, 7), do(api.DoMed, 8), noMed, do(api.DoAdd, 3), del("s"), do(api.DoPrepend, 2), next("abcd"), do(api.DoOrigin, 2)}
	for _, r := range []api.Route{plain(), rich()} {
		for _, a := range actions {
			x, err := polvm.Act(a, l, 65000, r)
			if err != api.OK {
				t.Fatalf("Act(%v): %d", a, err)
			}
			wantRun(t, put(program(act(a), end(1)), l...), 65000, r, x.Attrs, true, api.OK)
			wantRun(t, put(program(act(a), end(0)), l...), 65000, r, api.Attrs{}, false, api.OK)
			for _, b := range actions {
				y, err := polvm.Act(b, l, 65000, x)
				if err != api.OK {
					t.Fatalf("Act(%v): %d", b, err)
				}
				wantRun(t, put(program(act(a), act(b), act(accept), end(0)), l...), 65000, r, y.Attrs, true, api.OK)
			}
		}
	}
}

// An action's error ends the run; where none comes to it, it is none.
func TestP17_4Errors(t *testing.T) {
	full := greatest()
	for _, c := range []struct {
		a    api.Action
		as   uint32
		r    api.Route
		want api.Errno
	}{
		{do(api.DoAdd, 7), 65000, full, api.ErrFull},
		{do(api.DoPrepend, 8), 65000, full, api.ErrLong},
		{do(api.DoPrepend, 1), 0, full, api.ErrArg},
		{do(api.DoPrepend, 8), 0, plain(), api.ErrArg},
	} {
		bad := act(c.a)
		for _, p := range []api.Program{
			program(bad, end(1)),
			program(bad, end(0)),
			program(pref(1), bad, act(accept), end(1)),
			program(match(yes, 2), bad, act(reject), end(1)),
			program(match(no, 2), act(accept), bad, end(1)),
			program(bad, bad, end(1)),
		} {
			wantRun(t, p, c.as, c.r, api.Attrs{}, false, c.want)
		}
		wantRun(t, program(act(accept), bad, end(0)), c.as, c.r, c.r.Attrs, true, api.OK)
		wantRun(t, program(act(reject), bad, end(1)), c.as, c.r, api.Attrs{}, false, api.OK)
		wantRun(t, program(match(no, 2), bad, end(1)), c.as, c.r, c.r.Attrs, true, api.OK)
	}
	// Of two the first one that is met.
	wantRun(t, program(act(do(api.DoAdd, 7)), act(do(api.DoPrepend, 8)), end(1)), 65000, full, api.Attrs{}, false, api.ErrFull)
	wantRun(t, program(act(do(api.DoPrepend, 8)), act(do(api.DoAdd, 7)), end(1)), 65000, full, api.Attrs{}, false, api.ErrLong)
	// There is room again, once communities are taken away.
	room := put(program(act(del("s")), act(do(api.DoAdd, 7)), end(1)), commSet("s", count(1)...))
	wantRun(t, room, 65000, full, with(full, func(r *api.Route) { r.Attrs.Comms[0] = 7 }).Attrs, true, api.OK)
}

// The program's error is told ahead of the route's.
func TestP17_4WhichError(t *testing.T) {
	lost := program(act(del("none")), end(0))
	for _, r := range wrongRoutes() {
		wantRun(t, program(end(1)), 1, r, api.Attrs{}, false, api.ErrArg)
		wantRun(t, program(act(reject), end(1)), 1, r, api.Attrs{}, false, api.ErrArg)
		wantRun(t, lost, 1, r, api.Attrs{}, false, api.ErrName)
		wantRun(t, program(end(2)), 1, r, api.Attrs{}, false, api.ErrArg)
	}
	wantRun(t, program(act(do(api.DoAdd, 7)), act(del("none")), end(0)), 1, greatest(), api.Attrs{}, false, api.ErrName)
	wantRun(t, program(act(do(api.DoAdd, 7)), end(2)), 1, greatest(), api.Attrs{}, false, api.ErrArg)
	wantRun(t, program(act(do(api.DoPrepend, 1)), act(del("none")), end(0)), 0, plain(), api.Attrs{}, false, api.ErrName)
}

// Programs whose steps go anywhere ahead are held against the model, which meets no more instructions than there are.
func TestP17_4Model(t *testing.T) {
	r := rand.New(rand.NewSource(20))
	seen, accepted := map[api.Errno]int{}, 0
	for range 15000 {
		p, x := randomProgram(r), randomRoute(r)
		as := one(r, []uint32{65000, 65000, 1, 0})
		want, is, err, met := modelRun(p, as, x)
		if met > len(p.Ins) {
			t.Errorf("%d steps of %d instructions", met, len(p.Ins))
		}
		seen[err]++
		if is {
			accepted++
		}
		wantRun(t, p, as, x, want, is, err)
	}
	if accepted < 2000 || seen[api.OK]-accepted < 2000 || seen[api.ErrArg] < 100 || seen[api.ErrName] < 100 || seen[api.ErrFull] < 50 || seen[api.ErrLong] < 50 {
		t.Errorf("%v, %d accepted", seen, accepted)
	}
}

// What one run did is nothing to the next one, of the same program.
func TestP17_4Again(t *testing.T) {
	r := rand.New(rand.NewSource(21))
	for range 300 {
		p := randomProgram(r)
		var l []api.Route
		for range 5 {
			l = append(l, randomRoute(r))
		}
		for range 2 {
			for _, x := range l {
				want, is, err, _ := modelRun(p, 65000, x)
				wantRun(t, p, 65000, x, want, is, err)
			}
		}
	}
}

// randomPolicy has terms that may be, of conditions and actions that mostly find their sets.
func randomPolicy(r *rand.Rand) api.Policy {
	p := api.Policy{Name: "p", Else: r.Intn(2) == 0}
	for range r.Intn(5) {
		var term api.Term
		for range r.Intn(3) {
			term.Conds = append(term.Conds, randomCond(r))
		}
		for range r.Intn(4) {
			term.Actions = append(term.Actions, randomAction(r))
		}
		if len(term.Actions) == 0 || r.Intn(4) == 0 {
			term.Actions = append(term.Actions, one(r, []api.Action{accept, accept, reject}))
		}
		p.Terms = append(p.Terms, term)
	}
	return p
}

// A compiled policy answers what its terms say, one by one; and it is one that Check takes.
func TestP17_5Terms(t *testing.T) {
	r := rand.New(rand.NewSource(22))
	seen, accepted := map[api.Errno]int{}, 0
	for range 15000 {
		policy, l, x := randomPolicy(r), randomSets(r), randomRoute(r)
		p, err := polc.Compile(policy, l)
		if err != api.OK {
			continue
		}
		if err := polvm.Check(p); err != api.OK {
			t.Errorf("Check(%s): %d", brief(p), err)
		}
		as := one(r, []uint32{65000, 65000, 1, 0})
		want, is, err := byTerms(policy, l, as, x)
		seen[err]++
		if is {
			accepted++
		}
		wantRun(t, p, as, x, want, is, err)
	}
	if accepted < 2000 || seen[api.OK]-accepted < 2000 || seen[api.ErrArg] < 100 || seen[api.ErrFull] < 50 || seen[api.ErrLong] < 50 {
		t.Errorf("%v, %d accepted", seen, accepted)
	}
}

// Terms that do not end it hand the route on as they leave it.
func TestP17_5OneByOne(t *testing.T) {
	l := sets(commSet("s", 0x10001), commSet("none"))
	for _, c := range []struct {
		texts []string
		other bool
		want  func(a *api.Attrs)
	}{
		{nil, true, func(a *api.Attrs) {}},
		{nil, false, nil},
		{[]string{"then pref 1", "then pref 2", "then pref 3"}, true, func(a *api.Attrs) { a.HasPref, a.Pref = true, 3 }},
		{[]string{"then pref 1", "then pref 2", "then pref 3"}, false, nil},
		{[]string{"then pref 1", "if peer a and length 2 and fam v4 and origin igp then accept", "then reject"}, false, func(a *api.Attrs) { a.HasPref, a.Pref = true, 1 }},
		{[]string{"then pref 1", "if peer a and length 1 then accept", "then med 5 and accept"}, false, func(a *api.Attrs) { a.HasPref, a.Pref, a.HasMed, a.Med = true, 1, true, 5 }},
		{[]string{"if not peer a then reject", "if comm none then reject", "if not comm none then add 1:1 and add 1:2", "if comm s then del s and accept"}, false, func(a *api.Attrs) { a.Comms = []uint32{0x10002} }},
		{[]string{"if length 2 then prepend 1", "if length 2 then prepend 1", "if not length 2 then origin egp and accept"}, false, func(a *api.Attrs) { a.Path, a.Origin = path(seq(65000, 1, 2)), 1 }},
		{[]string{"then accept", "then reject"}, false, func(a *api.Attrs) {}},
		{[]string{"then reject", "then accept"}, true, nil},
	} {
		p := compiled(t, c.other, l, c.texts...)
		if c.want == nil {
			wantRejected(t, p)
		} else {
			wantAccepted(t, p, c.want)
		}
	}
}

// The greatest policy, and programs far above it, whose conditions all hold, or all do not.
func TestP17_5Many(t *testing.T) {
	term := api.Term{Conds: repeat(yes, most), Actions: repeat(do(api.DoAdd, 1), most)}
	p, err := polc.Compile(api.Policy{Name: "p", Terms: repeat(term, most), Else: true}, nil)
	if err != api.OK {
		t.Fatal(err)
	}
	wantAccepted(t, p, func(a *api.Attrs) { a.Comms = []uint32{1} })
	for i := range p.Ins {
		p.Ins[i].Cond.Not = p.Ins[i].Kind == api.InsMatch
	}
	wantAccepted(t, p, nil)
	const n = 100000
	var long api.Program
	for i := range n {
		name := "s" + strconv.Itoa(i)
		long.Sets = append(long.Sets, commSet(name, uint32(i)))
		long.Ins = append(long.Ins, match(cond(api.IfComm, name), i+1))
	}
	long.Ins = append(long.Ins, end(1))
	a, is, err := polvm.Run(long, 1, plain())
	if !is || err != api.OK || !same(a, plain().Attrs) {
		t.Errorf("%v, %v, %d", a, is, err)
	}
}

// Whatever is accepted may be, whatever was done to it; a prefix stays.
func TestP17_6MayBe(t *testing.T) {
	r := rand.New(rand.NewSource(23))
	accepted := 0
	for range 4000 {
		var p api.Program
		p.Sets = randomSets(r)
		for range r.Intn(30) {
			if a := randomAction(r); named(api.Cond{}, a, p.Sets) {
				p.Ins = append(p.Ins, act(a))
			}
		}
		p.Ins = append(p.Ins, end(1))
		x := one(r, append(routes(), randomRoute(r)))
		a, is, err := polvm.Run(p, 65000, x)
		if is != (err == api.OK) {
			t.Errorf("Run(%s, .., %s): %v, %d", brief(p), brief(x), is, err)
		}
		if is {
			accepted++
		}
		if !rightAttrs(a) {
			t.Errorf("Run(%s, .., %s): %s may not be", brief(p), brief(x), brief(a))
		}
	}
	if accepted < 1000 {
		t.Errorf("%d are accepted", accepted)
	}
}
