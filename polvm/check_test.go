package polvm_test

import (
	"math"
	"math/rand"
	"slices"
	"strconv"
	"testing"

	"herald/api"
	"herald/polvm"
)

// The least programs, and some that polc would not make: what ends it may stand anywhere, and more may stand behind it.
func TestP17_1MayBe(t *testing.T) {
	for _, p := range []api.Program{
		program(end(0)),
		program(end(1)),
		put(program(end(1)), setOf("s", 1), setOf("t", 2), setOf("u", 3)),
		program(act(accept), end(0)),
		program(act(accept), act(reject), act(accept), pref(1), end(1)),
		program(match(yes, 1), end(0)),
		program(match(yes, 3), match(no, 2), act(accept), end(0)),
		program(match(yes, 2), match(yes, 3), match(yes, 4), act(noMed), end(0)),
		put(program(act(del("s")), match(cond(api.IfComm, "s"), 2), end(0)), setOf("s", api.SetComm)),
	} {
		wantCheck(t, p, api.OK)
	}
}

func TestP17_1NoInstruction(t *testing.T) {
	wantCheck(t, api.Program{}, api.ErrArg)
	wantCheck(t, api.Program{Ins: []api.Ins{}}, api.ErrArg)
	wantCheck(t, put(program(), setOf("s", api.SetComm)), api.ErrArg)
}

// The last one is an InsEnd, and no other one.
func TestP17_1End(t *testing.T) {
	for n := range 6 {
		l := make([]api.Ins, n)
		for i := range l {
			l[i] = []api.Ins{pref(1), match(yes, n), act(accept)}[i%3]
		}
		wantCheck(t, program(append(slices.Clone(l), end(1))...), api.OK)
		for at := range n {
			wrong := append(slices.Clone(l), end(1))
			wrong[at] = end(0)
			wantCheck(t, program(wrong...), api.ErrArg)
			wrong[n] = pref(1)
			wantCheck(t, program(wrong...), api.ErrArg)
		}
		wantCheck(t, program(append(l, pref(1))...), api.ErrArg)
		wantCheck(t, program(append(l, match(yes, n))...), api.ErrArg)
		wantCheck(t, program(append(l, match(yes, n+1))...), api.ErrArg)
		wantCheck(t, program(append(l, act(accept))...), api.ErrArg)
		wantCheck(t, program(append(l, api.Ins{})...), api.ErrArg)
	}
	wantCheck(t, program(repeat(end(0), 3)...), api.ErrArg)
}

func TestP17_1Kinds(t *testing.T) {
	for _, kind := range append([]int{4, 5, 6, 7}, noKinds...) {
		for _, right := range []api.Ins{match(yes, 2), pref(1), end(1), {}} {
			right.Kind = kind
			wantCheck(t, program(right), api.ErrArg)
			wantCheck(t, program(right, pref(2), end(0)), api.ErrArg)
			wantCheck(t, program(pref(2), right, end(0)), api.ErrArg)
			wantCheck(t, program(pref(2), act(accept), right), api.ErrArg)
		}
	}
	// Of one kind with the fields of another one.
	for kind := 1; kind <= 3; kind++ {
		for own, ins := range []api.Ins{match(yes, 1), act(accept), end(1)} {
			ins.Kind = kind
			l := []api.Ins{ins, end(0)}
			if kind == api.InsEnd {
				l = l[:1]
			}
			want := api.ErrArg
			if kind == own+1 {
				want = api.OK
			}
			wantCheck(t, program(l...), want)
		}
	}
}

// Each field that a kind does not name is zero.
func TestP17_1Fields(t *testing.T) {
	changes := map[string][]func(ins *api.Ins){
		"cond": {
			func(ins *api.Ins) { ins.Cond.Kind = api.IfOrigin },
			func(ins *api.Ins) { ins.Cond.Kind = -1 },
			func(ins *api.Ins) { ins.Cond.Kind = 1 << 32 },
			func(ins *api.Ins) { ins.Cond.Not = true },
			func(ins *api.Ins) { ins.Cond.Name = "s" },
			func(ins *api.Ins) { ins.Cond.Name = "\x00" },
			func(ins *api.Ins) { ins.Cond.N = 1 },
			func(ins *api.Ins) { ins.Cond.N = math.MinInt },
			func(ins *api.Ins) { ins.Cond.N = 1 << 32 },
			func(ins *api.Ins) { ins.Cond = yes },
			func(ins *api.Ins) { ins.Cond = no },
			func(ins *api.Ins) { ins.Cond = cond(api.IfPeer, "a") },
			func(ins *api.Ins) { ins.Cond = cond(api.IfComm, "none") },
		},
		"act": {
			func(ins *api.Ins) { ins.Act.Kind = api.DoAccept },
			func(ins *api.Ins) { ins.Act.Kind = -1 },
			func(ins *api.Ins) { ins.Act.Kind = 1 << 32 },
			func(ins *api.Ins) { ins.Act.Name = "s" },
			func(ins *api.Ins) { ins.Act.Name = "\x00" },
			func(ins *api.Ins) { ins.Act.N = 1 },
			func(ins *api.Ins) { ins.Act.N = math.MaxUint32 },
			func(ins *api.Ins) { ins.Act.Addr = "abcd" },
			func(ins *api.Ins) { ins.Act.Addr = "\x00" },
			func(ins *api.Ins) { ins.Act = do(api.DoPref, 1) },
			func(ins *api.Ins) { ins.Act = del("none") },
		},
		"to": {
			func(ins *api.Ins) { ins.To = 1 },
			func(ins *api.Ins) { ins.To = 2 },
			func(ins *api.Ins) { ins.To = -1 },
			func(ins *api.Ins) { ins.To = 1 << 32 },
			func(ins *api.Ins) { ins.To = math.MinInt },
		},
		"n": {
			func(ins *api.Ins) { ins.N = 1 },
			func(ins *api.Ins) { ins.N = 2 },
			func(ins *api.Ins) { ins.N = -1 },
			func(ins *api.Ins) { ins.N = 1 << 32 },
			func(ins *api.Ins) { ins.N = math.MinInt },
		},
	}
	for field, l := range changes {
		for _, change := range l {
			for kind, ins := range []api.Ins{match(number(api.IfOrigin, 0), 2), act(noMed), end(0)} {
				own := [][]string{{"cond", "to"}, {"act"}, {"n"}}[kind]
				if slices.Contains(own, field) {
					continue
				}
				change(&ins)
				if kind == 2 {
					wantCheck(t, program(ins), api.ErrArg)
					wantCheck(t, program(pref(1), act(accept), ins), api.ErrArg)
					continue
				}
				wantCheck(t, program(ins, pref(1), end(0)), api.ErrArg)
				wantCheck(t, program(pref(1), ins, end(0)), api.ErrArg)
			}
		}
	}
}

// To lies behind the own place, and is at most the last one's.
func TestP17_1To(t *testing.T) {
	for n := 1; n <= 6; n++ {
		for at := range n {
			l := append(repeat(pref(1), n), end(1))
			for _, to := range append([]int{7, 8, 9, math.MinInt + 1, 1<<32 + 3, -3, -4}, edges...) {
				want := api.ErrArg
				if to > at && to <= n {
					want = api.OK
				}
				l[at] = match(yes, to)
				wantCheck(t, program(l...), want)
			}
		}
	}
}

func TestP17_1EndN(t *testing.T) {
	for _, n := range edges {
		want := api.ErrArg
		if n == 0 || n == 1 {
			want = api.OK
		}
		wantCheck(t, program(end(n)), want)
		wantCheck(t, program(act(accept), match(yes, 2), end(n)), want)
	}
}

// Conditions and actions in instructions are those that may be, at each place.
func TestP17_1Conds(t *testing.T) {
	count := map[bool]int{}
	for _, c := range condsOf() {
		p := program(match(c, 1), end(0))
		if c.Kind >= 1 && c.Kind <= 3 && isName(c.Name) {
			p.Sets = sets(setOf(c.Name, c.Kind))
		}
		want := api.ErrArg
		if rightCond(c) {
			want = api.OK
		}
		count[want == api.OK]++
		if err := polvm.Check(p); err != want {
			t.Errorf("Check(%s): %d, want %d", brief(p), err, want)
		}
		p.Ins = []api.Ins{pref(1), match(c, 3), match(yes, 3), end(1)}
		if err := polvm.Check(p); err != want {
			t.Errorf("Check(%s): %d, want %d", brief(p), err, want)
		}
	}
	if count[true] < 100 || count[false] < 1000 {
		t.Errorf("%v", count)
	}
}

func TestP17_1Actions(t *testing.T) {
	count := map[bool]int{}
	for _, a := range actionsOf() {
		p := program(act(a), end(0))
		if isName(a.Name) {
			p.Sets = sets(setOf(a.Name, api.SetComm))
		}
		want := api.ErrArg
		if rightAction(a) {
			want = api.OK
		}
		count[want == api.OK]++
		if err := polvm.Check(p); err != want {
			t.Errorf("Check(%s): %d, want %d", brief(p), err, want)
		}
		p.Ins = []api.Ins{pref(1), act(a), match(yes, 3), end(1)}
		if err := polvm.Check(p); err != want {
			t.Errorf("Check(%s): %d, want %d", brief(p), err, want)
		}
	}
	if count[true] < 80 || count[false] < 1000 {
		t.Errorf("%v", count)
	}
}

// Sets must be ones that may be together, whether they are asked or not.
func TestP17_1Sets(t *testing.T) {
	for _, l := range wrongTogether() {
		wantCheck(t, put(program(end(0)), l...), api.ErrArg)
		wantCheck(t, put(program(act(del("s")), end(0)), l...), api.ErrArg)
		wantCheck(t, put(program(act(del("none")), end(0)), l...), api.ErrArg)
	}
	for kind := 1; kind <= 3; kind++ {
		wantCheck(t, put(program(end(0)), setOf("s", kind), setOf("s-", kind), setOf("ss", kind)), api.OK)
		wantCheck(t, put(program(end(0)), api.Set{Name: "s", Kind: kind}), api.OK)
	}
}

// Who asks a set finds one of its own kind alone, with Not and without, wherever it stands, even where no run comes.
func TestP17_1Names(t *testing.T) {
	for kind := range 4 {
		l := sets(setOf("a", api.SetPath), setOf("z", api.SetComm))
		if kind > 0 {
			l = slices.Insert(l, 1, setOf("s", kind))
		}
		for _, c := range []struct {
			ins  api.Ins
			asks int
		}{
			{match(cond(api.IfPrefix, "s"), 3), api.SetPrefix},
			{match(cond(api.IfComm, "s"), 3), api.SetComm},
			{match(cond(api.IfPath, "s"), 3), api.SetPath},
			{match(not(cond(api.IfPrefix, "s")), 3), api.SetPrefix},
			{match(not(cond(api.IfComm, "s")), 3), api.SetComm},
			{match(not(cond(api.IfPath, "s")), 3), api.SetPath},
			{act(del("s")), api.SetComm},
			{match(cond(api.IfPeer, "s"), 3), kind},
		} {
			want := api.ErrName
			if c.asks == kind {
				want = api.OK
			}
			wantCheck(t, put(program(c.ins, pref(1), pref(2), end(0)), l...), want)
			wantCheck(t, put(program(pref(1), c.ins, pref(2), end(0)), l...), want)
			wantCheck(t, put(program(act(del("z")), pref(2), c.ins, end(0)), l...), want)
			wantCheck(t, put(program(act(reject), c.ins, act(del("z")), end(0)), l...), want)
			wantCheck(t, put(program(match(no, 2), c.ins, match(cond(api.IfPath, "a"), 3), end(0)), l...), want)
		}
	}
	for _, name := range []string{"t", "s-", "s0", "as", "zz"} {
		wantCheck(t, put(program(act(del(name)), end(0)), setOf("s", 2), setOf("z", 2)), api.ErrName)
	}
}

// What may not be is told ahead of names that nobody has.
func TestP17_1ErrArgFirst(t *testing.T) {
	lost := act(del("none"))
	wantCheck(t, program(lost, end(0)), api.ErrName)
	wantCheck(t, program(lost, end(2)), api.ErrArg)
	wantCheck(t, program(lost, api.Ins{}, end(0)), api.ErrArg)
	wantCheck(t, program(api.Ins{}, lost, end(0)), api.ErrArg)
	wantCheck(t, program(lost), api.ErrArg)
	wantCheck(t, program(end(0), lost), api.ErrArg)
	wantCheck(t, program(lost, match(yes, 1), end(0)), api.ErrArg)
	wantCheck(t, program(match(cond(api.IfComm, "none"), 2), end(0)), api.ErrArg)
	wantCheck(t, put(program(lost, end(0)), api.Set{}), api.ErrArg)
	wantCheck(t, put(program(lost, end(0)), setOf("s", 2), setOf("s", 2)), api.ErrArg)
	wantCheck(t, put(program(lost, end(0)), api.Set{Name: "none", Kind: 4}), api.ErrArg)
}

// No line limits how many instructions and sets there are.
func TestP17_1Many(t *testing.T) {
	const n = 30000
	var p api.Program
	for i := range n {
		name := "s" + strconv.Itoa(i)
		p.Sets = append(p.Sets, setOf(name, 1+i%3))
		p.Ins = append(p.Ins, match(cond(1+i%3, name), n))
	}
	p.Ins = append(p.Ins, end(1))
	if err := polvm.Check(p); err != api.OK {
		t.Errorf("%d", err)
	}
	last := p.Sets[n-1].Name
	p.Sets[n-1].Name = "s"
	if err := polvm.Check(p); err != api.ErrName {
		t.Errorf("without the last one: %d", err)
	}
	p.Sets[n-1].Name = "s0"
	if err := polvm.Check(p); err != api.ErrArg {
		t.Errorf("the first one twice: %d", err)
	}
	p.Sets[n-1].Name = last
	p.Ins[n-1].To++
	if err := polvm.Check(p); err != api.ErrArg {
		t.Errorf("beyond the last one: %d", err)
	}
}

// Programs that may be rather often are held against the model.
func TestP17_1Model(t *testing.T) {
	r := rand.New(rand.NewSource(17))
	count := map[api.Errno]int{}
	for range 10000 {
		p := randomProgram(r)
		if r.Intn(3) == 0 {
			spoilProgram(r, &p)
		}
		want := modelCheck(p)
		count[want]++
		wantCheck(t, p, want)
	}
	for _, e := range []api.Errno{api.OK, api.ErrArg, api.ErrName} {
		if count[e] < 500 {
			t.Errorf("%d of %d", count[e], e)
		}
	}
}

// randomProgram may be, but for the sets that it asks: its steps go anywhere ahead.
func randomProgram(r *rand.Rand) api.Program {
	p := api.Program{Sets: randomSets(r)}
	n := r.Intn(9)
	for at := range n {
		switch r.Intn(12) {
		case 0:
			p.Ins = append(p.Ins, act(one(r, []api.Action{accept, reject})))
		case 1, 2, 3, 4, 5:
			p.Ins = append(p.Ins, act(randomAction(r)))
		default:
			p.Ins = append(p.Ins, match(randomCond(r), at+1+r.Intn(n-at)))
		}
	}
	p.Ins = append(p.Ins, end(r.Intn(2)))
	return p
}

// spoilProgram changes one thing of a program.
func spoilProgram(r *rand.Rand, p *api.Program) {
	ins := &p.Ins[r.Intn(len(p.Ins))]
	switch r.Intn(8) {
	case 0:
		ins.Kind = r.Intn(5)
	case 1:
		ins.To += r.Intn(5) - 2
	case 2:
		ins.N += r.Intn(3)
	case 3:
		ins.Cond = randomCond(r)
	case 4:
		ins.Act = randomAction(r)
	case 5:
		p.Ins = p.Ins[1:]
	case 6:
		p.Ins = p.Ins[:len(p.Ins)-1]
	case 7:
		p.Sets = append(p.Sets, setOf(one(r, fewNames), 1+r.Intn(3)))
	}
}
