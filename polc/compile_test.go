package polc_test

import (
	"math/rand"
	"slices"
	"strconv"
	"testing"

	"herald/api"
	"herald/polc"
)

func match(c api.Cond, to int) api.Ins { return api.Ins{Kind: api.InsMatch, Cond: c, To: to} }
func act(a api.Action) api.Ins         { return api.Ins{Kind: api.InsAct, Act: a} }
func end(n int) api.Ins                { return api.Ins{Kind: api.InsEnd, N: n} }

func program(l ...api.Ins) api.Program { return api.Program{Ins: l} }

func TestP16_2Examples(t *testing.T) {
	three := api.Cond{Kind: api.IfLength, N: 3}
	wantProgram(t, policy(iff(three)), nil, program(match(three, 2), act(accept), end(0)))
}

// No terms at all: what is left is as Else says.
func TestP16_2Else(t *testing.T) {
	for _, terms := range [][]api.Term{nil, {}} {
		wantProgram(t, api.Policy{Name: "p", Terms: terms}, nil, program(end(0)))
		wantProgram(t, api.Policy{Name: "p", Terms: terms, Else: true}, nil, program(end(1)))
	}
	wantProgram(t, api.Policy{Name: "p", Terms: []api.Term{then(reject)}, Else: true}, nil, program(act(reject), end(1)))
	wantProgram(t, api.Policy{Name: "p", Terms: []api.Term{then(accept)}}, nil, program(act(accept), end(0)))
}

// Terms with and without conditions, one behind the other.
func TestP16_2To(t *testing.T) {
	one, two := api.Cond{Kind: api.IfLength, N: 1}, api.Cond{Kind: api.IfFam, Not: true, N: 2}
	pref := api.Action{Kind: api.DoPref, N: 200}
	wantProgram(t, policy(then(noMed, pref), iff(one, two), then(pref), api.Term{Conds: []api.Cond{two}, Actions: []api.Action{noMed, pref, reject}}), nil,
		program(act(noMed), act(pref), match(one, 5), match(two, 5), act(accept), act(pref), match(two, 10), act(noMed), act(pref), act(reject), end(0)))
	wantProgram(t, policy(iff(), iff(one), iff()), nil, program(act(accept), match(one, 3), act(accept), act(accept), end(0)))
	wantProgram(t, policy(iff(one), iff(one), iff(one, one)), nil, program(match(one, 2), act(accept), match(one, 4), act(accept), match(one, 7), match(one, 7), act(accept), end(0)))
}

// Each condition and action goes over as it is.
func TestP16_2AllKinds(t *testing.T) {
	for _, c := range condsOf() {
		var l []api.Set
		if c.Kind <= api.IfPath {
			l = append(l, setOf(c.Name, c.Kind))
		}
		p := policy(iff(c))
		wantProgram(t, p, l, api.Program{Ins: []api.Ins{match(c, 2), act(accept), end(0)}, Sets: l})
	}
	for _, a := range actionsOf() {
		var l []api.Set
		if a.Kind == api.DoDel {
			l = append(l, commSet(a.Name))
		}
		wantProgram(t, policy(then(a)), l, api.Program{Ins: []api.Ins{act(a), end(0)}, Sets: l})
	}
}

// The greatest one that there may be.
func TestP16_2Most(t *testing.T) {
	c := api.Cond{Kind: api.IfComm, Name: "s"}
	term := api.Term{Conds: repeat(c, most), Actions: repeat(del("s"), most)}
	l := []api.Set{commSet("s")}
	p := api.Policy{Name: "p", Terms: repeat(term, most), Else: true}
	want := api.Program{Sets: l}
	for i := range most {
		want.Ins = append(want.Ins, repeat(match(c, 2*most*(i+1)), most)...)
		want.Ins = append(want.Ins, repeat(act(del("s")), most)...)
	}
	want.Ins = append(want.Ins, end(1))
	wantProgram(t, p, l, want)
}

// Sets stand in their own order, each once, however often and in whatever order they are named.
func TestP16_2Sets(t *testing.T) {
	a, b, c, d, e := prefixSet("a"), commSet("b"), pathSet("c"), commSet("d"), commSet("e")
	p := policy(
		api.Term{Conds: []api.Cond{named(api.IfPath, "c"), named(api.IfComm, "b"), named(api.IfComm, "b")}, Actions: []api.Action{del("d"), del("b")}},
		iff(api.Cond{Kind: api.IfPrefix, Not: true, Name: "a"}, named(api.IfPeer, "e"), named(api.IfPath, "c")))
	for _, l := range [][]api.Set{{a, b, c, d, e}, {e, d, c, b, a}, {d, a, e, c, b}, {a, b, c, d}, {b, d, c, a}} {
		want := modelProgram(p, l)
		if len(want.Sets) != 4 {
			t.Fatal("the model names other sets")
		}
		wantProgram(t, p, l, want)
	}
	wantProgram(t, policy(iff(named(api.IfPeer, "e"))), []api.Set{e}, program(match(named(api.IfPeer, "e"), 2), act(accept), end(0)))
	wantProgram(t, policy(then(accept)), []api.Set{a, b, c, d, e}, program(act(accept), end(0)))
	wantProgram(t, policy(then(del("d"))), []api.Set{a, b, c, d, e}, api.Program{Ins: []api.Ins{act(del("d")), end(0)}, Sets: []api.Set{d}})
	wantProgram(t, api.Policy{Name: "b"}, []api.Set{b}, program(end(0)))
}

// Sets without anything, whose lists are nil or empty, go over too.
func TestP16_2EmptySets(t *testing.T) {
	for kind := api.SetPrefix; kind <= api.SetPath; kind++ {
		c := named(kind, "s")
		for _, s := range []api.Set{{Name: "s", Kind: kind}, {Name: "s", Kind: kind, Items: []api.Item{}, Comms: []uint32{}, Paths: [][]api.Atom{}}} {
			wantProgram(t, policy(iff(c)), []api.Set{s}, api.Program{Ins: []api.Ins{match(c, 2), act(accept), end(0)}, Sets: []api.Set{s}})
		}
	}
}

// Sets that share lists with one another, when they are handed in, do so no more in the program.
func TestP16_2OwnLists(t *testing.T) {
	atoms := []api.Atom{{Kind: api.AtomAny}, {Kind: api.AtomMany}}
	comms, paths := []uint32{1, 2}, [][]api.Atom{atoms, atoms}
	items := prefixSet("x").Items
	var l []api.Set
	var conds []api.Cond
	for i, kind := range []int{1, 1, 2, 2, 3, 3} {
		s := api.Set{Name: "s" + strconv.Itoa(i), Kind: kind}
		switch kind {
		case api.SetPrefix:
			s.Items = items
		case api.SetComm:
			s.Comms = comms
		case api.SetPath:
			s.Paths = paths
		}
		l, conds = append(l, s), append(conds, named(kind, s.Name))
	}
	x, err := polc.Compile(policy(iff(conds...)), l)
	if err != api.OK || len(x.Sets) != 6 {
		t.Fatalf("%+v, %d", x, err)
	}
	x.Sets[4].Paths[0][0].Kind = 99
	if x.Sets[4].Paths[1][0].Kind == 99 || x.Sets[5].Paths[0][0].Kind == 99 || atoms[0].Kind == 99 {
		t.Error("two patterns share their atoms")
	}
	x.Sets[4].Paths[0][0] = atoms[0]
	for i := range x.Sets {
		spoilSet(x.Sets[i])
		for k := i + 1; k < len(x.Sets); k++ {
			if !sameSet(x.Sets[k], l[k]) {
				t.Errorf("the sets %d and %d share memory", i, k)
			}
		}
	}
	if !slices.Equal(comms, []uint32{1, 2}) || !slices.Equal(items, prefixSet("x").Items) || len(paths[0]) != 2 {
		t.Error("what was handed in is changed")
	}
}

// What is done to a policy and to sets behind the call changes nothing of the program.
func TestP16_2NotKept(t *testing.T) {
	l := []api.Set{prefixSet("a"), commSet("b"), pathSet("c")}
	p := policy(api.Term{Conds: []api.Cond{named(1, "a"), named(2, "b"), named(3, "c")}, Actions: []api.Action{del("b"), accept}})
	want := modelProgram(p, l)
	x, _ := polc.Compile(p, l)
	for i := range l {
		spoilSet(l[i])
		l[i] = setMark
	}
	p.Terms[0].Conds[0], p.Terms[0].Actions[0] = condMark, actionMark
	p.Terms[0] = termMark
	if !sameProgram(x, want) {
		t.Errorf("%+v, want %+v", x, want)
	}
}

// Refused is just what Check refuses, with its error; all else is as the model says, and as P16.6 says.
func TestP16_2Model(t *testing.T) {
	r := rand.New(rand.NewSource(17))
	taken := 0
	for range 20000 {
		p, l := randomPolicy(r), randomSets(r)
		if err := modelCheck(p, l); err != api.OK {
			wantRefused(t, p, l, err)
			continue
		}
		taken++
		wantProgram(t, p, l, modelProgram(p, l))
		wantPlaces(t, p, l)
	}
	if taken < 3000 {
		t.Errorf("%d policies are compiled", taken)
	}
}

// wantPlaces looks for what P16.6 says of a program.
func wantPlaces(t *testing.T, p api.Policy, l []api.Set) {
	t.Helper()
	x, _ := polc.Compile(p, l)
	n := 1
	for _, term := range p.Terms {
		n += len(term.Conds) + len(term.Actions)
	}
	if len(x.Ins) != n {
		t.Errorf("Compile(%+v): %d instructions, want %d", p, len(x.Ins), n)
	}
	for i, ins := range x.Ins {
		if ins.Kind == api.InsMatch && (ins.To <= i || ins.To >= n) || ins.Kind != api.InsMatch && ins.To != 0 {
			t.Errorf("Compile(%+v): to %d at %d", p, ins.To, i)
		}
		if (ins.Kind == api.InsEnd) != (i == n-1) {
			t.Errorf("Compile(%+v): the kind %d at %d", p, ins.Kind, i)
		}
	}
}

func TestP16_6Places(t *testing.T) {
	r := rand.New(rand.NewSource(18))
	conds, actions := condsOf(), goOn()
	for range 2000 {
		var p = policy()
		for range r.Intn(8) {
			p.Terms = append(p.Terms, randomTerm(r, conds, actions))
		}
		var l []api.Set
		for name, kinds := range wantedSets(p) {
			l = append(l, setOf(name, kinds[0]))
		}
		if modelCheck(p, l) == api.OK {
			wantPlaces(t, p, l)
		}
	}
	term := api.Term{Conds: repeat(api.Cond{Kind: api.IfOrigin}, most), Actions: repeat(noMed, most)}
	wantPlaces(t, policy(repeat(term, most)...), nil)
	wantPlaces(t, policy(), nil)
}

// One more set that is not named, at each place and of each kind, changes nothing.
func TestP16_6OneMoreSet(t *testing.T) {
	r := rand.New(rand.NewSource(19))
	for range 3000 {
		p, l := randomPolicy(r), randomSets(r)
		p.Terms = append(p.Terms, iff(named(api.IfPeer, "more")))
		x, err := polc.Compile(p, l)
		for at := 0; at <= len(l); at++ {
			with := slices.Insert(slices.Clone(l), at, setOf("more", 1+r.Intn(3)))
			y, e := polc.Compile(p, with)
			if e != err || !sameProgram(x, y) {
				t.Errorf("Compile(%+v, %+v): %+v, %d, want %+v, %d", p, with, y, e, x, err)
			}
			if e := polc.Check(p, with); e != err {
				t.Errorf("Check(%+v, %+v): %d, want %d", p, with, e, err)
			}
		}
	}
}
