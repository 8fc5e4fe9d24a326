package polc_test

import (
	"math/rand"
	"reflect"
	"testing"

	"herald/api"
	"herald/polc"
)

// wantSame asks both ways.
func wantSame(t *testing.T, a, b api.Policy, want bool) {
	t.Helper()
	x, y := roomyPolicy(a), roomyPolicy(b)
	if is := polc.Same(x, y); is != want {
		t.Errorf("Same(%+v, %+v): %v", a, b, is)
	}
	if is := polc.Same(y, x); is != want {
		t.Errorf("Same(%+v, %+v): %v", b, a, is)
	}
	wantPolicyKept(t, "Same", x, a)
	wantPolicyKept(t, "Same", y, b)
}

// full has something in each field, though it may not be.
func full() api.Policy {
	c := api.Cond{Kind: 1, Not: true, Name: "a", N: 2}
	a := api.Action{Kind: 1, Name: "a", N: 2, Addr: "abcd"}
	term := func() api.Term { return api.Term{Conds: []api.Cond{c, c, c}, Actions: []api.Action{a, a, a}} }
	return api.Policy{Name: "p", Terms: []api.Term{term(), term(), term()}, Else: true}
}

// Each field, at each place, tells two apart.
func TestP16_4Fields(t *testing.T) {
	wantSame(t, full(), full(), true)
	for i, change := range []func(p *api.Policy, term, at int){
		func(p *api.Policy, term, at int) { p.Name = "q" },
		func(p *api.Policy, term, at int) { p.Name = "" },
		func(p *api.Policy, term, at int) { p.Name = "pp" },
		func(p *api.Policy, term, at int) { p.Else = false },
		func(p *api.Policy, term, at int) { p.Terms = p.Terms[:term] },
		func(p *api.Policy, term, at int) { p.Terms = p.Terms[1+term:] },
		func(p *api.Policy, term, at int) { p.Terms = append(p.Terms, p.Terms[term]) },
		func(p *api.Policy, term, at int) { p.Terms[term] = api.Term{} },
		func(p *api.Policy, term, at int) { p.Terms[term].Conds = p.Terms[term].Conds[:at] },
		func(p *api.Policy, term, at int) { p.Terms[term].Actions = p.Terms[term].Actions[:at] },
		func(p *api.Policy, term, at int) { p.Terms[term].Conds = append(p.Terms[term].Conds, api.Cond{}) },
		func(p *api.Policy, term, at int) { p.Terms[term].Actions = append(p.Terms[term].Actions, api.Action{}) },
		func(p *api.Policy, term, at int) { p.Terms[term].Conds[at].Kind = 2 },
		func(p *api.Policy, term, at int) { p.Terms[term].Conds[at].Not = false },
		func(p *api.Policy, term, at int) { p.Terms[term].Conds[at].Name = "b" },
		func(p *api.Policy, term, at int) { p.Terms[term].Conds[at].N = -2 },
		func(p *api.Policy, term, at int) { p.Terms[term].Actions[at].Kind = 2 },
		func(p *api.Policy, term, at int) { p.Terms[term].Actions[at].Name = "b" },
		func(p *api.Policy, term, at int) { p.Terms[term].Actions[at].N = 3 },
		func(p *api.Policy, term, at int) { p.Terms[term].Actions[at].Addr = "abce" },
	} {
		for term := range 3 {
			for at := range 3 {
				p := full()
				change(&p, term, at)
				wantSame(t, full(), p, false)
				q := full()
				change(&q, term, at)
				wantSame(t, p, q, true)
				if t.Failed() {
					t.Fatalf("change %d, term %d, place %d", i, term, at)
				}
			}
		}
	}
}

// Empty lists may be nil or empty; policies need not be ones that may be.
func TestP16_4Empty(t *testing.T) {
	wantSame(t, api.Policy{}, api.Policy{}, true)
	wantSame(t, api.Policy{}, api.Policy{Terms: []api.Term{}}, true)
	wantSame(t, api.Policy{}, api.Policy{Terms: []api.Term{{}}}, false)
	wantSame(t, api.Policy{Terms: []api.Term{{}}}, api.Policy{Terms: []api.Term{{Conds: []api.Cond{}, Actions: []api.Action{}}}}, true)
	wantSame(t, api.Policy{Terms: make([]api.Term, 1000)}, api.Policy{Terms: make([]api.Term, 1000)}, true)
	wantSame(t, api.Policy{Terms: make([]api.Term, 1000)}, api.Policy{Terms: make([]api.Term, 1001)}, false)
	wantSame(t, api.Policy{Else: true}, api.Policy{}, false)
	wantSame(t, api.Policy{Name: "A b\x00"}, api.Policy{Name: "A b\x00"}, true)
}

// Conditions and actions in another order, or in another term, are others.
func TestP16_4Order(t *testing.T) {
	a, b := api.Cond{Kind: api.IfFam, N: 1}, api.Cond{Kind: api.IfLength, N: 1}
	wantSame(t, policy(iff(a, b)), policy(iff(b, a)), false)
	wantSame(t, policy(iff(a, a)), policy(iff(a)), false)
	wantSame(t, policy(iff(a), iff(b)), policy(iff(b), iff(a)), false)
	wantSame(t, policy(iff(a), iff(b)), policy(iff(a, b), iff()), false)
	wantSame(t, policy(then(noMed, accept)), policy(then(accept, noMed)), false)
	wantSame(t, policy(then(noMed), then(accept)), policy(then(noMed, accept)), false)
}

// Random pairs of few fields are held against a comparison of all fields.
func TestP16_4Model(t *testing.T) {
	r := rand.New(rand.NewSource(20))
	small := func() api.Policy {
		p := api.Policy{Name: fewNames[r.Intn(2)], Else: r.Intn(2) == 0}
		for range r.Intn(3) {
			x := api.Term{}
			for range r.Intn(2) {
				x.Conds = append(x.Conds, api.Cond{Kind: r.Intn(2), Not: r.Intn(2) == 0, N: r.Intn(2)})
			}
			for range r.Intn(2) {
				x.Actions = append(x.Actions, api.Action{Kind: r.Intn(2), N: uint32(r.Intn(2))})
			}
			p.Terms = append(p.Terms, x)
		}
		return p
	}
	same := 0
	for range 100000 {
		a, b := small(), small()
		want := reflect.DeepEqual(a, b)
		if want {
			same++
		}
		wantSame(t, a, b, want)
	}
	if same < 1000 {
		t.Errorf("%d pairs are the same", same)
	}
}
