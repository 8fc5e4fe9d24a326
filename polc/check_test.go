package polc_test

import (
	"math/rand"
	"slices"
	"strconv"
	"strings"
	"testing"

	"herald/api"
	"herald/polc"
)

var accept, reject, noMed = api.Action{Kind: api.DoAccept}, api.Action{Kind: api.DoReject}, api.Action{Kind: api.DoNoMed}

// policy is one of that name with these terms.
func policy(terms ...api.Term) api.Policy { return api.Policy{Name: "p", Terms: terms} }

// iff is a term that accepts, if these conditions hold; then is one without conditions.
func iff(conds ...api.Cond) api.Term       { return api.Term{Conds: conds, Actions: []api.Action{accept}} }
func then(actions ...api.Action) api.Term  { return api.Term{Actions: actions} }
func named(kind int, name string) api.Cond { return api.Cond{Kind: kind, Name: name} }
func del(name string) api.Action           { return api.Action{Kind: api.DoDel, Name: name} }
func repeat[T any](x T, n int) []T         { return slices.Repeat([]T{x}, n) }

func TestP16_1Examples(t *testing.T) {
	wantRefused(t, policy(iff(named(api.IfPrefix, "a"))), nil, api.ErrName)
	wantRefused(t, policy(iff(named(api.IfComm, "a"))), []api.Set{prefixSet("a")}, api.ErrName)
	wantRefused(t, api.Policy{}, nil, api.ErrArg)
	wantRefused(t, api.Policy{Terms: []api.Term{then(accept)}}, nil, api.ErrArg)
	wantCheck(t, policy(), nil, api.OK)
}

// wantAll looks whether Check, Compile and TermText take a term, at each place of a policy, with just the sets that it asks.
func wantAll(t *testing.T, x api.Term, right bool) {
	t.Helper()
	with := []api.Set{}
	for name, kinds := range wantedSets(policy(x)) {
		if slices.Min(kinds) == slices.Max(kinds) && isName(name) {
			with = append(with, setOf(name, kinds[0]))
		}
	}
	other := then(noMed, accept)
	for _, p := range []api.Policy{policy(x), policy(x, other, other), policy(other, x, other), policy(other, other, x)} {
		if right {
			wantCheck(t, p, with, api.OK)
		} else {
			wantRefused(t, p, with, api.ErrArg)
		}
	}
	if right {
		wantText(t, x, modelText(x))
	} else {
		wantNoText(t, x)
	}
}

// Each kind, with each choice of a name and a number, and with Not.
func TestP16_1Conds(t *testing.T) {
	right := 0
	someNames := []string{"", "a", "a234567890123456", "a2345678901234567", "A"}
	for kind := range 9 {
		for _, name := range someNames {
			for _, n := range edges {
				for _, not := range []bool{false, true} {
					c := api.Cond{Kind: kind, Not: not, Name: name, N: n}
					if rightCond(c) {
						right++
					}
					wantAll(t, iff(c), rightCond(c))
				}
			}
		}
	}
	if right != 2*(4*2+3+15+5) {
		t.Errorf("%d of the conditions may be", right)
	}
}

func TestP16_1CondNames(t *testing.T) {
	for kind := api.IfPrefix; kind <= api.IfFam; kind++ {
		for _, name := range names {
			wantAll(t, iff(named(kind, name)), kind <= api.IfPeer)
		}
		for _, name := range notNames {
			c := named(kind, name)
			wantAll(t, iff(c), rightCond(c))
		}
	}
}

// Numbers one by one about each limit.
func TestP16_1CondNumbers(t *testing.T) {
	for n := -300; n < 300; n++ {
		wantAll(t, iff(api.Cond{Kind: api.IfOrigin, N: n}), n >= 0 && n <= 2)
		wantAll(t, iff(api.Cond{Kind: api.IfFam, N: n}), n >= 1 && n <= 5)
		wantAll(t, iff(api.Cond{Kind: api.IfLength, N: n}), n >= 0)
		wantAll(t, iff(api.Cond{Kind: api.IfLength, N: 65536 + n}), n < 0)
	}
}

func TestP16_1CondKinds(t *testing.T) {
	for _, kind := range noCondKinds {
		for _, c := range []api.Cond{{}, {Name: "a"}, {N: 1}, {N: 2}, {Not: true, Name: "a"}, {Name: "a", N: 1}} {
			c.Kind = kind
			wantAll(t, iff(c), false)
		}
	}
}

// Each kind, with each choice of a name, a number and an address.
func TestP16_1Actions(t *testing.T) {
	for kind := range 12 {
		for _, name := range []string{"", "a", "a234567890123456", "a2345678901234567", "A"} {
			for _, addr := range []string{"", "abc", "abcd", "abcde", strings.Repeat("b", 16), strings.Repeat("b", 17)} {
				for _, n := range edges32 {
					a := api.Action{Kind: kind, Name: name, N: n, Addr: addr}
					wantAll(t, then(a), rightAction(a))
				}
			}
		}
	}
}

func TestP16_1ActionFields(t *testing.T) {
	for kind := api.DoAccept; kind <= api.DoOrigin; kind++ {
		for _, name := range append(names, notNames...) {
			wantAll(t, then(api.Action{Kind: kind, Name: name}), rightAction(api.Action{Kind: kind, Name: name}))
		}
		for _, addr := range append(addrs, notAddrs...) {
			wantAll(t, then(api.Action{Kind: kind, Addr: addr}), rightAction(api.Action{Kind: kind, Addr: addr}))
		}
		for size := range 66 {
			a := api.Action{Kind: kind, Addr: strings.Repeat("\x01", size)}
			wantAll(t, then(a), rightAction(a))
		}
		for n := range uint32(600) {
			wantAll(t, then(api.Action{Kind: kind, N: n}), rightAction(api.Action{Kind: kind, N: n}))
		}
	}
}

func TestP16_1ActionKinds(t *testing.T) {
	for _, kind := range noActionKinds {
		for _, a := range []api.Action{{}, {Name: "a"}, {N: 1}, {Addr: "abcd"}, {Name: "a", N: 1, Addr: "abcd"}} {
			a.Kind = kind
			wantAll(t, then(a), false)
			wantAll(t, then(a, accept), false)
		}
	}
}

// What ends a term stands last alone; all else may stand anywhere, more than once.
func TestP16_1Last(t *testing.T) {
	for _, last := range []api.Action{accept, reject} {
		wantAll(t, then(last), true)
		wantAll(t, then(noMed, last), true)
		wantAll(t, then(noMed, noMed, noMed), true)
		for n := 1; n <= 4; n++ {
			for at := range n {
				l := repeat(noMed, n)
				l[at] = last
				wantAll(t, then(l...), at == n-1)
			}
		}
		for _, behind := range []api.Action{accept, reject} {
			wantAll(t, then(last, behind), false)
			wantAll(t, then(noMed, last, behind), false)
			wantAll(t, then(last, noMed, behind), false)
		}
		wantAll(t, then(append(repeat(noMed, most-1), last)...), true)
		wantAll(t, then(append(repeat(noMed, most-2), last, noMed)...), false)
	}
	for _, a := range goOn() {
		wantAll(t, then(a, a), true)
		wantAll(t, then(a, accept), true)
		wantAll(t, then(reject, a), false)
	}
}

// One wrong condition or action, at each place of a term, is enough.
func TestP16_1Places(t *testing.T) {
	wrong := []api.Cond{{}, {Kind: 8, Name: "a"}, named(api.IfPeer, ""), {Kind: api.IfLength, N: 65536}}
	for _, c := range wrong {
		for at := range 4 {
			l := repeat(api.Cond{Kind: api.IfOrigin}, 4)
			l[at] = c
			wantAll(t, iff(l...), false)
		}
	}
	for _, a := range []api.Action{{}, {Kind: 11}, {Kind: api.DoPrepend}, {Kind: api.DoNoMed, N: 1}} {
		for at := range 4 {
			l := repeat(noMed, 4)
			l[at] = a
			wantAll(t, then(l...), false)
		}
	}
}

func TestP16_1HowManyOfATerm(t *testing.T) {
	for _, n := range []int{0, 1, 2, most - 1, most, most + 1, most + 2, 2 * most, 255, 256, 257, 256 + most} {
		conds := repeat(api.Cond{Kind: api.IfFam, N: 1}, n)
		wantAll(t, iff(conds...), n <= most)
		wantAll(t, then(repeat(noMed, n)...), n >= 1 && n <= most)
		wantAll(t, api.Term{Conds: conds, Actions: repeat(noMed, n)}, n >= 1 && n <= most)
		wantAll(t, api.Term{Conds: conds}, false)
	}
	wantAll(t, api.Term{}, false)
	wantAll(t, api.Term{Conds: []api.Cond{}, Actions: []api.Action{}}, false)
	wantAll(t, api.Term{Conds: []api.Cond{}, Actions: []api.Action{accept}}, true)
}

func TestP16_1HowManyTerms(t *testing.T) {
	for _, n := range []int{0, 1, 2, most - 1, most, most + 1, most + 2, 2 * most, 255, 256, 257, 256 + most, 1<<16 + 1} {
		p := policy(repeat(then(accept), n)...)
		if n > most {
			wantRefused(t, p, nil, api.ErrArg)
		} else {
			wantCheck(t, p, nil, api.OK)
		}
	}
	whole := api.Term{Conds: repeat(api.Cond{Kind: api.IfFam, N: 1}, most), Actions: repeat(noMed, most)}
	wantCheck(t, policy(repeat(whole, most)...), nil, api.OK)
}

func TestP16_1PolicyNames(t *testing.T) {
	for _, name := range names {
		wantCheck(t, api.Policy{Name: name, Terms: []api.Term{then(accept)}}, nil, api.OK)
		wantCheck(t, api.Policy{Name: name, Else: true}, []api.Set{commSet(name)}, api.OK)
	}
	for _, name := range notNames {
		wantRefused(t, api.Policy{Name: name}, nil, api.ErrArg)
		wantRefused(t, api.Policy{Name: name, Terms: []api.Term{then(accept)}, Else: true}, nil, api.ErrArg)
	}
}

// A set that may not be, at each place, is enough, whether it is asked or not.
func TestP16_1WrongSets(t *testing.T) {
	for _, p := range []api.Policy{policy(), policy(then(accept)), policy(then(del("s"))), policy(then(del("none"))), policy(iff(named(api.IfPrefix, "s")))} {
		for _, name := range []string{"s", "x"} {
			for _, s := range wrongSets(name) {
				wantRefused(t, p, []api.Set{s}, api.ErrArg)
				for at := range 4 {
					l := []api.Set{prefixSet("a"), commSet("b"), pathSet("c"), commSet("d")}
					l[at] = s
					wantRefused(t, p, l, api.ErrArg)
				}
			}
		}
	}
}

// Two sets of one name may not be, of one kind or not, at whatever places, asked or not.
func TestP16_1Twice(t *testing.T) {
	for first := range 3 {
		for second := range 3 {
			for i := range 4 {
				for k := i + 1; k < 4; k++ {
					l := []api.Set{commSet("a"), commSet("b"), commSet("c"), commSet("d")}
					l[i], l[k] = setOf("s", 1+first), setOf("s", 1+second)
					wantRefused(t, policy(), l, api.ErrArg)
					wantRefused(t, policy(then(del("s"))), l, api.ErrArg)
					wantRefused(t, policy(then(del("none"))), l, api.ErrArg)
					l[k].Name = "s-"
					wantCheck(t, policy(), l, api.OK)
				}
			}
		}
	}
	wantRefused(t, policy(then(del("s"))), repeat(commSet("s"), 3), api.ErrArg)
}

// Each that asks a set, with one of each kind: all others find none of their own.
func TestP16_1SetKinds(t *testing.T) {
	for kind := api.SetPrefix; kind <= api.SetPath; kind++ {
		l := []api.Set{pathSet("a"), setOf("s", kind), commSet("z")}
		for _, c := range []struct {
			term api.Term
			asks int
		}{
			{iff(named(api.IfPrefix, "s")), api.SetPrefix},
			{iff(named(api.IfComm, "s")), api.SetComm},
			{iff(named(api.IfPath, "s")), api.SetPath},
			{then(del("s")), api.SetComm},
			{then(del("s"), accept), api.SetComm},
			{iff(named(api.IfPeer, "s")), kind},
			{iff(named(api.IfPath, "a"), api.Cond{Kind: api.IfComm, Not: true, Name: "s"}), api.SetComm},
			{api.Term{Conds: []api.Cond{named(api.IfPath, "a")}, Actions: []api.Action{noMed, del("z"), del("s")}}, api.SetComm},
		} {
			for _, p := range []api.Policy{policy(c.term), policy(then(noMed), c.term), policy(c.term, then(noMed))} {
				if c.asks == kind {
					wantCheck(t, p, l, api.OK)
				} else {
					wantRefused(t, p, l, api.ErrName)
				}
				without := slices.Delete(slices.Clone(l), 1, 2)
				if c.term.Conds != nil && c.term.Conds[0].Kind == api.IfPeer {
					wantCheck(t, p, without, api.OK)
				} else {
					wantRefused(t, p, without, api.ErrName)
				}
			}
		}
	}
}

// Names are the same byte for byte only; a neighbour's and a policy's are none of a set.
func TestP16_1OtherNames(t *testing.T) {
	l := []api.Set{commSet("s"), commSet("ss"), commSet("s-")}
	for _, name := range []string{"s", "ss", "s-"} {
		wantCheck(t, policy(then(del(name))), l, api.OK)
	}
	for _, name := range []string{"sss", "s0", "t", "p", "s--"} {
		wantRefused(t, policy(then(del(name))), l, api.ErrName)
	}
	wantCheck(t, policy(iff(named(api.IfPeer, "nobody"))), nil, api.OK)
	wantRefused(t, policy(iff(named(api.IfPeer, "nobody")), then(del("nobody"))), nil, api.ErrName)
}

// What may not be is told ahead of names that nobody has.
func TestP16_1ErrArgFirst(t *testing.T) {
	lost := then(del("none"))
	wantRefused(t, policy(lost), nil, api.ErrName)
	wantRefused(t, policy(lost, api.Term{}), nil, api.ErrArg)
	wantRefused(t, policy(api.Term{}, lost), nil, api.ErrArg)
	wantRefused(t, policy(lost), []api.Set{{}}, api.ErrArg)
	wantRefused(t, policy(lost), []api.Set{commSet("s"), commSet("s")}, api.ErrArg)
	wantRefused(t, policy(repeat(lost, most+1)...), nil, api.ErrArg)
	wantRefused(t, api.Policy{Terms: []api.Term{lost}}, nil, api.ErrArg)
	wantRefused(t, policy(then(del("none"), api.Action{})), nil, api.ErrArg)
}

// No line limits how many sets there are.
func TestP16_1ManySets(t *testing.T) {
	for _, n := range []int{32, 33, most, most + 1, 256, 257, 20000} {
		var l []api.Set
		for i := range n {
			l = append(l, setOf("s"+strconv.Itoa(i), 1+i%3))
		}
		p := policy(then(del("s1"), del("s"+strconv.Itoa(n-1-(n-2)%3))))
		if err := polc.Check(p, l); err != api.OK {
			t.Errorf("%d sets: %d", n, err)
		}
		l[n-1].Name = "s0"
		if err := polc.Check(policy(), l); err != api.ErrArg {
			t.Errorf("%d sets, two of one name: %d", n, err)
		}
	}
}

// Policies that may be rather often, with sets of a few names, are held against the model.
func TestP16_1Model(t *testing.T) {
	r := rand.New(rand.NewSource(16))
	count := map[api.Errno]int{}
	for range 20000 {
		p, l := randomPolicy(r), randomSets(r)
		want := modelCheck(p, l)
		count[want]++
		wantCheck(t, p, l, want)
	}
	for _, e := range []api.Errno{api.OK, api.ErrArg, api.ErrName} {
		if count[e] < 2000 {
			t.Errorf("%d of %d", count[e], e)
		}
	}
}

var fewNames = []string{"a", "b", "and", "then"}

// randomPolicy has terms that may be, of a few names; now and then something is wrong.
func randomPolicy(r *rand.Rand) api.Policy {
	p := api.Policy{Name: "p", Else: r.Intn(2) == 0}
	for range r.Intn(4) {
		var t api.Term
		for range r.Intn(3) {
			t.Conds = append(t.Conds, []api.Cond{
				{Kind: 1 + r.Intn(4), Name: fewNames[r.Intn(len(fewNames))]},
				{Kind: api.IfLength, N: r.Intn(9)},
				{Kind: api.IfFam, N: 1 + r.Intn(5), Not: true},
			}[r.Intn(3)])
		}
		for range 1 + r.Intn(3) {
			t.Actions = append(t.Actions, []api.Action{
				del(fewNames[r.Intn(len(fewNames))]),
				{Kind: api.DoPref, N: r.Uint32()},
				noMed,
			}[r.Intn(3)])
		}
		if r.Intn(2) == 0 {
			t.Actions = append(t.Actions, accept)
		}
		if r.Intn(20) == 0 {
			t.Actions = append(t.Actions, reject)
		}
		p.Terms = append(p.Terms, t)
	}
	return p
}

// randomSets are sets of the few names, in any order; now and then two have one.
func randomSets(r *rand.Rand) []api.Set {
	var l []api.Set
	for _, i := range r.Perm(len(fewNames)) {
		if r.Intn(6) > 0 {
			l = append(l, setOf(fewNames[i], []int{2, 2, 2, 1, 3}[r.Intn(5)]))
		}
		if r.Intn(40) == 0 {
			l = append(l, setOf(fewNames[r.Intn(len(fewNames))], 1+r.Intn(3)))
		}
	}
	return l
}
