package differ_test

import (
	"math/rand"
	"reflect"
	"strings"
	"testing"

	"herald/api"
)

// busy is a peer with something in each field, though it may not be.
func busy() api.Peer {
	return api.Peer{
		Name: "a", Addr: host(3), Range: api.Prefix{Fam: api.Vpn4, RD: 5, Addr: ten.Addr, Len: 8}, AS: 65001, Hold: 90, Retry: 30, Passive: true, Client: true, Confed: true,
		Fams: []int{api.V4, api.V6, api.L4}, Send: 4, Take: true, Most: 9, GR: true, Time: 5, Mrai: 7, In: "p", Out: "q", Vrf: "v", SelfNext: true,
	}
}

func change(p api.Peer, how func(p *api.Peer)) api.Peer {
	p = clone(p)
	how(&p)
	return p
}

func TestP19_1Examples(t *testing.T) {
	p := outer(2)
	wantPeer(t, p, p, 0)
	wantPeer(t, p, change(p, func(p *api.Peer) { p.In = "x" }), 1)
	wantPeer(t, p, change(p, func(p *api.Peer) { p.Hold = 3 }), 2)
	wantPeer(t, p, change(p, func(p *api.Peer) { p.In, p.Hold = "x", 3 }), 2)
}

// softEdits and hardEdits turn one field each.
func softEdits() []func(p *api.Peer) {
	return []func(p *api.Peer){
		func(p *api.Peer) { p.In += "x" }, func(p *api.Peer) { p.In = "" }, func(p *api.Peer) { p.In = p.Out },
		func(p *api.Peer) { p.Out += "\x00" }, func(p *api.Peer) { p.Out = "" }, func(p *api.Peer) { p.Out = "P" },
		func(p *api.Peer) { p.SelfNext = !p.SelfNext },
	}
}

func hardEdits() []func(p *api.Peer) {
	return []func(p *api.Peer){
		func(p *api.Peer) { p.Name += "b" }, func(p *api.Peer) { p.Name = "" },
		func(p *api.Peer) { p.Addr = host(200) }, func(p *api.Peer) { p.Addr += "\x00" }, func(p *api.Peer) { p.Addr = "" },
		func(p *api.Peer) { p.Range.Fam++ }, func(p *api.Peer) { p.Range.RD++ }, func(p *api.Peer) { p.Range.Addr += "\x00" }, func(p *api.Peer) { p.Range.Len++ },
		func(p *api.Peer) { p.AS++ }, func(p *api.Peer) { p.AS = 0 },
		func(p *api.Peer) { p.Hold++ }, func(p *api.Peer) { p.Hold = -1 }, func(p *api.Peer) { p.Hold += 1 << 32 },
		func(p *api.Peer) { p.Retry++ }, func(p *api.Peer) { p.Passive = !p.Passive }, func(p *api.Peer) { p.Client = !p.Client }, func(p *api.Peer) { p.Confed = !p.Confed },
		func(p *api.Peer) { p.Fams = nil }, func(p *api.Peer) { p.Fams = p.Fams[:len(p.Fams)-1] }, func(p *api.Peer) { p.Fams = append(p.Fams, api.Vpn6) }, func(p *api.Peer) { p.Fams[0] += 7 }, func(p *api.Peer) { p.Fams[len(p.Fams)-1] += 7 }, func(p *api.Peer) { p.Fams = append(p.Fams, p.Fams...) },

		func(p *api.Peer) { p.Send++ }, func(p *api.Peer) { p.Take = !p.Take }, func(p *api.Peer) { p.Most++ }, func(p *api.Peer) { p.GR = !p.GR }, func(p *api.Peer) { p.Time++ }, func(p *api.Peer) { p.Mrai++ },
		func(p *api.Peer) { p.Vrf += "w" }, func(p *api.Peer) { p.Vrf = "\xff" },
	}
}

// Each field alone, of peers that may be and of others; each two soft ones; a soft and a hard one; two hard ones.
func TestP19_1Fields(t *testing.T) {
	for _, p := range []api.Peer{busy(), outer(2), full().Peers[3]} {
		wantPeer(t, p, p, 0)
		for i, soft := range softEdits() {
			q := change(p, soft)
			if write(p) == write(q) {
				continue // an empty name put to the empty one
			}
			wantPeer(t, p, q, 1)
			wantPeer(t, q, q, 0)
			for _, other := range softEdits() {
				if r := change(q, other); write(p) != write(r) {
					wantPeer(t, p, r, 1)
				}
			}
			for k, hard := range hardEdits() {
				wantPeer(t, p, change(change(p, soft), hard), 2)
				if t.Failed() {
					t.Fatalf("the soft edit %d and the hard one %d of %s", i, k, p.Name)
				}
			}
		}
		for i, hard := range hardEdits() {
			q := change(p, hard)
			if write(p) == write(q) {
				t.Errorf("the hard edit %d changes nothing", i)
			}
			wantPeer(t, p, q, 2)
			wantPeer(t, q, q, 0)
		}
	}
}

// All fields that peers have are held against one another: each one is turned by itself, whatever the type has.
func TestP19_1EachField(t *testing.T) {
	turned := map[string]int{}
	c := api.Config{Peers: []api.Peer{busy()}}
	edits(c, func(what string, d api.Config) {
		field, is := strings.CutPrefix(strings.Fields(what)[0], ".Peers[].")
		if !is || same(c, d) {
			return
		}
		name, _, _ := strings.Cut(field, ".")
		name = strings.TrimSuffix(name, "[]")
		want := 2
		if name == "In" || name == "Out" || name == "SelfNext" {
			want = 1
		}
		turned[name]++
		wantPeer(t, c.Peers[0], d.Peers[0], want)
	})
	kind := reflect.TypeFor[api.Peer]()
	for i := range kind.NumField() {
		if turned[kind.Field(i).Name] == 0 {
			t.Errorf("%s is not turned", kind.Field(i).Name)
		}
	}
}

func TestP19_1Fams(t *testing.T) {
	of := func(l ...int) api.Peer { return change(outer(2), func(p *api.Peer) { p.Fams = l }) }
	wantPeer(t, of(), change(of(), func(p *api.Peer) { p.Fams = []int{} }), 0)
	wantPeer(t, change(of(), func(p *api.Peer) { p.Fams = make([]int, 0, 4) }), change(of(), func(p *api.Peer) { p.Fams = []int{} }), 0)
	wantPeer(t, of(), of(0), 2)
	wantPeer(t, of(1, 2), of(2, 1), 2)
	wantPeer(t, of(1, 2), of(1), 2)
	wantPeer(t, of(1, 2), of(2), 2)
	wantPeer(t, of(1), of(1, 1), 2)
	wantPeer(t, of(1, 2, 3), of(1, 4, 3), 2)
	wantPeer(t, of(1, 2, 3, 4, 5), of(1, 2, 3, 4, 5), 0)
	wantPeer(t, of(-1, 99), of(-1, 99), 0)
	wantPeer(t, of(make([]int, 5000)...), of(make([]int, 5001)...), 2)
	wantPeer(t, of(make([]int, 5000)...), of(make([]int, 5000)...), 0)
}

// Of any two: those that may not be, too.
func TestP19_1Any(t *testing.T) {
	wantPeer(t, api.Peer{}, api.Peer{}, 0)
	wantPeer(t, api.Peer{}, api.Peer{SelfNext: true}, 1)
	wantPeer(t, api.Peer{}, api.Peer{In: "A b\x00"}, 1)
	wantPeer(t, api.Peer{}, api.Peer{Out: strings.Repeat("\xff", 99999)}, 1)
	wantPeer(t, api.Peer{}, api.Peer{In: "x", Out: "y", SelfNext: true}, 1)
	wantPeer(t, api.Peer{}, api.Peer{Client: true}, 2)
	wantPeer(t, api.Peer{Hold: -9}, api.Peer{Hold: -9, In: "x"}, 1)
	wantPeer(t, api.Peer{Name: "\xff\x00"}, api.Peer{Name: "\xff\x00"}, 0)
	wantPeer(t, api.Peer{}, busy(), 2)
	// The two of names changed about are unlike, though they have the same texts.
	wantPeer(t, api.Peer{In: "x"}, api.Peer{Out: "x"}, 1)
	wantPeer(t, api.Peer{In: "x"}, api.Peer{Vrf: "x"}, 2)
}

func TestP19_1Model(t *testing.T) {
	r := rand.New(rand.NewSource(191))
	seen := [3]int{}
	for range 20000 {
		p := busy()
		q := busy()
		for range r.Intn(3) {
			l := softEdits()
			if r.Intn(4) == 0 {
				l = hardEdits()
			}
			i := r.Intn(len(l))
			if len(p.Fams) == 0 || len(q.Fams) == 0 {
				break // some edits take a family
			}
			l[i](&q)
			if r.Intn(3) == 0 {
				l[i](&p)
			}
		}
		n := modelPeer(p, q)
		seen[n]++
		wantPeer(t, p, q, n)
	}
	for n, times := range seen {
		if times < 1000 {
			t.Errorf("%d is answered %d times", n, times)
		}
	}
}
