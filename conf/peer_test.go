package conf_test

import (
	"math"
	"reflect"
	"slices"
	"strings"
	"testing"

	"herald/api"
	"herald/conf"
)

// wantPeer is want of full with the peer at that place changed.
func wantPeer(t *testing.T, right bool, at int, change func(p *api.Peer)) {
	t.Helper()
	wantFull(t, right, "peer", at, func(c *api.Config) { change(&c.Peers[at]) })
}

func TestP18_1PeerNames(t *testing.T) {
	for _, name := range names {
		wantPeer(t, true, 0, func(p *api.Peer) { p.Name = name })
	}
	for _, name := range notNames {
		for at := range 5 {
			wantPeer(t, false, at, func(p *api.Peer) { p.Name = name })
		}
	}
	for i := range 5 {
		for k := range i {
			wantFull(t, false, "peer", i, func(c *api.Config) { c.Peers[i].Name = c.Peers[k].Name })
		}
	}
}

func TestP18_1PeerAddr(t *testing.T) {
	for size := range 70 {
		wantPeer(t, size == 4 || size == 16, 0, func(p *api.Peer) { p.Addr = strings.Repeat("\x07", size) })
		wantPeer(t, size == 4 || size == 16, 3, func(p *api.Peer) { p.Addr = strings.Repeat("\x07", size) })
	}
	for _, size := range []int{255, 256, 260, 272, 1<<16 + 4} {
		wantPeer(t, false, 2, func(p *api.Peer) { p.Addr = strings.Repeat("\x07", size) })
	}
	for i := range 5 {
		for k := range i {
			// The peer 1 has a range, and no address: another one without both is wrong for that.
			wantFull(t, false, "peer", i, func(c *api.Config) { c.Peers[i].Addr = c.Peers[k].Addr })
		}
	}
	// What has the same bytes ahead is another address.
	wantFull(t, true, "", 0, func(c *api.Config) { c.Peers[2].Addr = c.Peers[0].Addr + strings.Repeat("\x00", 12) })
	wantFull(t, true, "", 0, func(c *api.Config) { c.Peers[0].Addr = c.Addr })
}

func TestP18_1PeerRange(t *testing.T) {
	plain := []api.Prefix{ten, six, {Fam: 1, Addr: "\x00\x00\x00\x00"}, {Fam: 1, Addr: host(2), Len: 32}, {Fam: 2, Addr: far, Len: 128}, {Fam: 2, Addr: strings.Repeat("\x00", 16)}}
	other := []api.Prefix{
		{}, {Fam: 3, Addr: ten.Addr, Len: 8}, {Fam: 4, Addr: ten.Addr, Len: 8}, {Fam: 4, RD: 7, Addr: ten.Addr, Len: 8}, {Fam: 5, Addr: six.Addr, Len: 16}, {Fam: 5, RD: math.MaxUint64, Addr: six.Addr, Len: 16}, {Fam: 6, Addr: ten.Addr, Len: 8}, {Fam: -1, Addr: ten.Addr, Len: 8},
		{Fam: 1, RD: 1, Addr: ten.Addr, Len: 8}, {Fam: 2, Addr: ten.Addr, Len: 8}, {Fam: 1, Addr: six.Addr, Len: 8}, {Fam: 1, Addr: "\x0a\x00\x00\x01", Len: 8}, {Fam: 1, Addr: ten.Addr, Len: 33}, {Fam: 1, Addr: ten.Addr, Len: -1}, {Fam: 1, Addr: ten.Addr, Len: 6}, {Fam: 2, Addr: six.Addr, Len: 129}, {Fam: 1}, {Len: 8}, {Addr: ten.Addr}, {RD: 1},
	}
	for at := range 5 {
		for _, passive := range []bool{false, true} {
			for _, x := range plain {
				wantPeer(t, passive, at, func(p *api.Peer) { p.Addr, p.Range, p.Passive = "", x, passive })
				wantPeer(t, false, at, func(p *api.Peer) { p.Addr, p.Range, p.Passive = host(77), x, passive })
				wantPeer(t, false, at, func(p *api.Peer) { p.Addr, p.Range, p.Passive = "abc", x, passive })
			}
			for _, x := range other {
				wantPeer(t, false, at, func(p *api.Peer) { p.Addr, p.Range, p.Passive = "", x, passive })
				wantPeer(t, x == api.Prefix{}, at, func(p *api.Peer) { p.Addr, p.Range, p.Passive = host(77), x, passive })
			}
		}
	}
	// Ranges may be those of other peers, too.
	wantFull(t, true, "", 0, func(c *api.Config) {
		for i := range c.Peers {
			c.Peers[i].Addr, c.Peers[i].Range, c.Peers[i].Passive = "", ten, true
		}
	})
}

func TestP18_1PeerNumbers(t *testing.T) {
	for _, n := range edges {
		for _, at := range []int{0, 1, 4} {
			wantPeer(t, n == 0 || n >= 3 && n <= 65535, at, func(p *api.Peer) { p.Hold = n })
			wantPeer(t, n >= 1 && n <= 65535, at, func(p *api.Peer) { p.Retry = n })
			wantPeer(t, n >= 0 && n <= 3600, at, func(p *api.Peer) { p.Mrai = n })
			wantPeer(t, n >= 1 && n <= 8, at, func(p *api.Peer) { p.Send = n })
			wantPeer(t, n >= 0 && n <= 4096, at, func(p *api.Peer) { p.Most = n })
			wantPeer(t, n >= 0 && n <= 4095, at, func(p *api.Peer) { p.Time, p.GR = n, true })
			wantPeer(t, n == 0, at, func(p *api.Peer) { p.Time, p.GR = n, false })
		}
	}
	for n := -20; n < 20; n++ {
		wantPeer(t, n == 0 || n >= 3, 0, func(p *api.Peer) { p.Hold = n })
		wantPeer(t, n >= 1 && n <= 8, 0, func(p *api.Peer) { p.Send = n })
		wantPeer(t, n >= 1, 0, func(p *api.Peer) { p.Retry = n })
	}
	for _, as := range edges32 {
		wantPeer(t, as > 0, 0, func(p *api.Peer) { p.AS = as })
		wantPeer(t, as > 0, 1, func(p *api.Peer) { p.AS, p.Client = as, false })
	}
}

func TestP18_1PeerFams(t *testing.T) {
	// All lists of up to four numbers about the families.
	var all func(l []int)
	all = func(l []int) {
		right := len(l) > 0
		for i, fam := range l {
			right = right && fam >= 1 && fam <= 5 && (i == 0 || l[i-1] < fam)
		}
		wantPeer(t, right, 0, func(p *api.Peer) { p.Fams = l })
		for fam := 0; fam <= 6 && len(l) < 3; fam++ {
			all(append(slices.Clone(l), fam))
		}
	}
	all(nil)
	wantPeer(t, false, 0, func(p *api.Peer) { p.Fams = []int{} })
	wantPeer(t, true, 4, func(p *api.Peer) { p.Fams = []int{1, 2, 3, 4, 5} })
	for _, fam := range edges {
		wantPeer(t, fam >= 1 && fam <= 5, 0, func(p *api.Peer) { p.Fams = []int{fam} })
		wantPeer(t, fam >= 3 && fam <= 5, 4, func(p *api.Peer) { p.Fams = []int{1, 2, fam} })
		wantPeer(t, false, 4, func(p *api.Peer) { p.Fams = []int{1, 2, 3, 4, 5, fam} })
	}
}

func TestP18_1PeerRules(t *testing.T) {
	for _, name := range []string{"", "p", "q", "r"} {
		wantPeer(t, true, 0, func(p *api.Peer) { p.In = name })
		wantPeer(t, true, 0, func(p *api.Peer) { p.Out = name })
		wantPeer(t, true, 3, func(p *api.Peer) { p.In, p.Out = name, name })
	}
	for _, name := range []string{"s", "P", "pp", "p ", "a", "b", "v", "p2", "-", " ", "accept", "\x00"} {
		for at := range 5 {
			wantPeer(t, false, at, func(p *api.Peer) { p.In = name })
			wantPeer(t, false, at, func(p *api.Peer) { p.Out = name })
		}
	}
	wantFull(t, false, "peer", 1, func(c *api.Config) { c.Rules = nil })
	// It is the name alone that is asked: that the rule itself is wrong is told of the rule.
	wantFull(t, false, "policy", 1, func(c *api.Config) { c.Rules[1].Name, c.Peers[0].In = "Q", "Q"; unname(c, "q") })
	wantFull(t, false, "policy", 1, func(c *api.Config) { c.Rules[1].Name, c.Peers[0].Out = "Q", "Q"; unname(c, "q") })
}

// unname takes a rule's name from all peers.
func unname(c *api.Config, name string) {
	for i := range c.Peers {
		p := &c.Peers[i]
		if p.In == name {
			p.In = ""
		}
		if p.Out == name {
			p.Out = ""
		}
	}
}

func TestP18_1PeerClient(t *testing.T) {
	for _, own := range edges32[1:] {
		for _, as := range edges32[1:] {
			c := small()
			c.AS = own
			p := outer(2)
			p.AS, p.Client = as, true
			c.Peers = []api.Peer{p}
			want(t, c, as == own, "peer", 0)
			c.Peers[0].Client = false
			wantRight(t, c)
		}
	}
	// Neither the confederation's AS nor a member's makes a client.
	wantPeer(t, false, 2, func(p *api.Peer) { p.Client = true })
	wantPeer(t, false, 0, func(p *api.Peer) { p.AS, p.Client = 100, true })
}

func TestP18_1PeerConfed(t *testing.T) {
	for _, x := range []struct {
		confed, as uint32
		members    []uint32
		right      bool
	}{
		{100, 65002, []uint32{65002}, true}, {100, 65002, []uint32{65000, 65002}, true}, {100, 65003, []uint32{65000, 65002}, false}, {100, 65002, nil, false}, {100, 65000, []uint32{65000, 65002}, false}, {100, 100, []uint32{65000, 65002}, false},
		{65002, 65002, []uint32{65002}, true}, {100, 65001, []uint32{65000, 65001, 65002}, true}, {100, 65002, []uint32{1, 2, 65002}, true}, {0, 65002, nil, false}, {math.MaxUint32, math.MaxUint32 - 1, []uint32{math.MaxUint32 - 1}, true}, {1, 65002, []uint32{65536 + 65002}, false},
	} {
		c := small()
		c.Confed, c.Members = x.confed, x.members
		p := outer(2)
		p.AS, p.Confed = x.as, true
		c.Peers = []api.Peer{p}
		want(t, c, x.right, "peer", 0)
		c.Peers[0].Confed = false
		wantRight(t, c)
	}
	// Where there are members without a confederation, they are wrong, and stand ahead.
	wantFull(t, false, "member", 0, func(c *api.Config) { c.Confed = 0 })
	wantPeer(t, false, 4, func(p *api.Peer) { p.Confed = true })
	wantPeer(t, false, 1, func(p *api.Peer) { p.Confed = true })
}

func TestP18_1PeerVrf(t *testing.T) {
	for _, name := range []string{"", "v", "w", "x"} {
		wantPeer(t, true, 3, func(p *api.Peer) { p.Vrf = name })
		wantPeer(t, true, 0, func(p *api.Peer) { p.Vrf = name })
	}
	for _, name := range []string{"y", "V", "vv", "v ", "p", "a", "p2", "-", " ", "\x00"} {
		for _, at := range []int{0, 3} {
			wantPeer(t, false, at, func(p *api.Peer) { p.Vrf = name })
		}
	}
	for _, l := range [][]int{{1}, {2}, {1, 2}, {3}, {4}, {5}, {1, 3}, {2, 3}, {1, 2, 3}, {1, 2, 4}, {2, 5}, {3, 4, 5}, {1, 2, 3, 4, 5}} {
		right := l[len(l)-1] <= 2
		wantPeer(t, right, 3, func(p *api.Peer) { p.Fams = l })
		wantPeer(t, true, 3, func(p *api.Peer) { p.Fams, p.Vrf = l, "" })
	}
	wantPeer(t, false, 3, func(p *api.Peer) { p.AS = 65000 })
	wantPeer(t, true, 3, func(p *api.Peer) { p.AS, p.Vrf = 65000, "" })
	wantPeer(t, false, 3, func(p *api.Peer) { p.AS, p.Confed = 65002, true })
	wantPeer(t, true, 3, func(p *api.Peer) { p.AS, p.Confed, p.Vrf = 65002, true, "" })
	wantPeer(t, true, 3, func(p *api.Peer) { p.AS = 65002 })
	wantPeer(t, true, 3, func(p *api.Peer) { p.AS = 100 })
	wantPeer(t, false, 1, func(p *api.Peer) { p.Vrf, p.Fams = "v", []int{1} })
	// It is the name alone that is asked: that the VRF is wrong is told of the VRF.
	wantFull(t, false, "vrf", 2, func(c *api.Config) { c.Vrfs[2].Name, c.Peers[0].Vrf = "X", "X" })
}

func TestP18_1ManyPeers(t *testing.T) {
	for n := range 40 {
		c := small()
		for i := range n {
			c.Peers = append(c.Peers, outer(2+i))
		}
		want(t, c, n <= 16, "peer", 0)
	}
	for _, n := range []int{255, 256, 257, 272} {
		c := small()
		for range n {
			c.Peers = append(c.Peers, outer(2))
		}
		wantWrong(t, c, "peer", 0)
	}
}

// All that a peer may have besides, in all combinations.
func TestP18_1PeerFlags(t *testing.T) {
	for bits := range 64 {
		for at := range 5 {
			c := full()
			p := &c.Peers[at]
			p.Passive, p.Client, p.Confed, p.Take, p.GR, p.SelfNext = bits&1 > 0, bits&2 > 0, bits&4 > 0, bits&8 > 0, bits&16 > 0, bits&32 > 0
			wantAsModel(t, c)
			right := (p.Passive || at != 1) && (!p.Client || at == 1 || at == 4) && (!p.Confed || at == 2) && (p.GR || at != 1)
			want(t, c, right, "peer", at)
		}
	}
}

func TestP18_4Peer(t *testing.T) {
	c := full()
	// A name that may not be, none, and one that two have, of which the first one counts.
	c.Peers = append(c.Peers, api.Peer{Name: "b", AS: 1}, api.Peer{Name: "B C", Fams: []int{9, 1}}, api.Peer{AS: 3})
	for i, p := range c.Peers {
		first := slices.IndexFunc(c.Peers, func(o api.Peer) bool { return o.Name == p.Name })
		if i == 5 && first != 1 {
			t.Errorf("%q stands first at %d", p.Name, first)
		}
		in := roomy(c)
		got, is := conf.Peer(in, p.Name)
		again, _ := conf.Peer(in, p.Name)
		if !is || !same(got, c.Peers[first]) {
			t.Errorf("Peer(%q): %s, %t", p.Name, short(got), is)
		}
		wantApart(t, "Peer", in, got, again)
		spoil(reflect.ValueOf(got))
		wantKept(t, "Peer", in, c)
		if !same(again, c.Peers[first]) {
			t.Error("Peer: two answers share memory")
		}
	}
	for _, name := range []string{"x", "bb", "B", "b ", " b", "p", "v", "B C ", "\x00"} {
		if p, is := conf.Peer(c, name); is || !same(p, api.Peer{}) {
			t.Errorf("Peer(%q): %s, %t", name, short(p), is)
		}
	}
	for _, name := range []string{"", "a"} {
		if p, is := conf.Peer(api.Config{}, name); is || !same(p, api.Peer{}) {
			t.Errorf("Peer(%q) of nothing: %s, %t", name, short(p), is)
		}
		if p, is := conf.Peer(small(), name); is || !same(p, api.Peer{}) {
			t.Errorf("Peer(%q) of small: %s, %t", name, short(p), is)
		}
	}
}

func TestP18_4Internal(t *testing.T) {
	for _, own := range edges32 {
		for _, as := range edges32 {
			for bits := range 8 {
				c := api.Config{AS: own, Confed: 100, Members: []uint32{as}}
				p := api.Peer{AS: as, Client: bits&1 > 0, Confed: bits&2 > 0}
				if bits&4 > 0 {
					c, p = api.Config{AS: own, Confed: as}, api.Peer{Name: "a", AS: as, Client: p.Client, Confed: p.Confed, Passive: true, GR: true, Vrf: "v"}
				}
				want := api.FromExternal
				switch {
				case own == as:
					want = []int{api.FromInternal, api.FromClient}[bits&1]
				case bits&2 > 0:
					want = api.FromConfed
				}
				if got := conf.Internal(c, p); got != want {
					t.Errorf("Internal(%d, %s): %d, want %d", own, short(p), got, want)
				}
			}
		}
	}
	c := full()
	for i, want := range []int{api.FromExternal, api.FromClient, api.FromConfed, api.FromExternal, api.FromInternal} {
		if got := conf.Internal(c, c.Peers[i]); got != want {
			t.Errorf("Internal of the peer %d: %d, want %d", i, got, want)
		}
	}
}
