package conf_test

import (
	"math"
	"slices"
	"strconv"
	"strings"
	"testing"

	"herald/api"
	"herald/conf"
)

// want looks for a configuration that may be, if line is "", and else for its first wrong thing.
func want(t *testing.T, c api.Config, right bool, line string, at int) {
	t.Helper()
	if right {
		wantRight(t, c)
	} else {
		wantWrong(t, c, line, at)
	}
}

// wantFull is want of full and of small, changed.
func wantFull(t *testing.T, right bool, line string, at int, change func(c *api.Config)) {
	t.Helper()
	want(t, edit(full(), change), right, line, at)
}

func TestP18_1Right(t *testing.T) {
	wantRight(t, small())
	wantRight(t, full())
	if s := modelText(full()); s != fullText {
		t.Errorf("the model's text is %q", s)
	}
	if s := modelText(small()); s != smallText {
		t.Errorf("the model's text is %q", s)
	}
	wantWrong(t, api.Config{}, "as", 0)
}

func TestP18_1Numbers(t *testing.T) {
	for _, n := range edges32 {
		for _, c := range []api.Config{small(), full()} {
			c.Peers, c.Confed, c.Members, c.AS = nil, 0, nil, n
			want(t, c, n > 0, "as", 0)
			c.AS, c.Id = 65000, n
			want(t, c, n > 0, "id", 0)
			c.Id, c.Confed, c.Cluster = 1, n, n
			wantRight(t, c)
		}
	}
}

func TestP18_1Addr(t *testing.T) {
	for size := range 70 {
		c := small()
		c.Addr = strings.Repeat("\x0a", size)
		want(t, c, size == 4, "addr", 0)
	}
	for _, size := range []int{255, 256, 260, 1<<16 + 4} {
		c := full()
		c.Addr = strings.Repeat("\x00", size)
		wantWrong(t, c, "addr", 0)
	}
	for _, addr := range []string{"\x00\x00\x00\x00", "\xff\xff\xff\xff", "\n   ", "    "} {
		c := full()
		c.Addr = addr
		wantRight(t, c)
	}
}

// The order of the things: each one that is wrong is told ahead of all behind it.
func TestP18_1Order(t *testing.T) {
	spoilers := []struct {
		line   string
		at     int
		change func(c *api.Config)
	}{
		{"as", 0, func(c *api.Config) { c.AS = 0 }},
		{"id", 0, func(c *api.Config) { c.Id = 0 }},
		{"addr", 0, func(c *api.Config) { c.Addr = "" }},
		{"member", 0, func(c *api.Config) { c.Members[0] = 0 }},
		{"member", 1, func(c *api.Config) { c.Members[1] = 0 }},
		{"labels", 0, func(c *api.Config) { c.Low = 0 }},
		{"vrf", 0, func(c *api.Config) { c.Vrfs[0].RD = 0 }},
		{"vrf", 1, func(c *api.Config) { c.Vrfs[1].Name = "W" }},
		{"vrf", 2, func(c *api.Config) { c.Vrfs[2].Export[0] = 1 }},
		{"peer", 0, func(c *api.Config) { c.Peers[0].Send = 0 }},
		{"peer", 1, func(c *api.Config) { c.Peers[1].Passive = false }},
		{"peer", 4, func(c *api.Config) { c.Peers[4].Fams = nil }},
		{"static", 0, func(c *api.Config) { c.Statics[0].Next = "" }},
		{"static", 2, func(c *api.Config) { c.Statics[2].Vrf = "y" }},
		{"set", 0, func(c *api.Config) { c.Sets[0].Items[0].High = 7 }},
		{"set", 3, func(c *api.Config) { c.Sets[3].Kind = 4 }},
		{"policy", 0, func(c *api.Config) { c.Rules[0].Terms[0].Conds[0].Name = "b" }},
		{"policy", 2, func(c *api.Config) { c.Rules[2].Terms[0].Actions = nil }},
	}
	for i, a := range spoilers {
		c := edit(full(), a.change)
		wantWrong(t, c, a.line, a.at)
		for _, b := range spoilers[i:] {
			wantWrong(t, edit(c, b.change), a.line, a.at)
		}
		all := full()
		for _, b := range slices.Backward(spoilers[i:]) {
			b.change(&all)
		}
		wantWrong(t, all, a.line, a.at)
	}
}

func TestP18_1Members(t *testing.T) {
	for _, x := range []struct {
		l     []uint32
		wrong int
	}{
		{nil, -1}, {[]uint32{}, -1}, {[]uint32{1}, -1}, {[]uint32{math.MaxUint32}, -1}, {[]uint32{1, 2}, -1}, {[]uint32{1, 65536, math.MaxUint32}, -1},
		{[]uint32{0}, 0}, {[]uint32{0, 1}, 0}, {[]uint32{1, 0}, 1}, {[]uint32{1, 1}, 1}, {[]uint32{2, 1}, 1}, {[]uint32{1, 3, 2, 4}, 2}, {[]uint32{1, 3, 3}, 2}, {[]uint32{5, 1, 6}, 1},
		{[]uint32{1 << 31, 1<<31 - 1}, 1}, {[]uint32{65537, 2}, 1}, {[]uint32{math.MaxUint32, 0}, 1},
	} {
		c := small()
		c.Confed, c.Members = 9, x.l
		want(t, c, x.wrong < 0, "member", x.wrong)
		c.Confed = 0
		want(t, c, len(x.l) == 0, "member", 0)
	}
	for _, n := range []int{1, 2, 63, 64, 65, 66, 128, 256, 257, 320, 3000} {
		c := small()
		c.Confed = 1
		for i := range n {
			c.Members = append(c.Members, uint32(1+i))
		}
		want(t, c, n <= 64, "member", 0)
		c.Confed = 0
		wantWrong(t, c, "member", 0)
		c.Confed, c.Members[n-1] = 1, 0
		want(t, c, false, "member", map[bool]int{true: n - 1, false: 0}[n <= 64])
	}
}

func TestP18_1Labels(t *testing.T) {
	for _, low := range edges32 {
		for _, high := range edges32 {
			c := small()
			c.Low, c.High = low, high
			want(t, c, low >= 16 && low <= high && high <= 1<<20-1, "labels", 0)
		}
	}
}

func TestP18_1Vrfs(t *testing.T) {
	for _, name := range names {
		wantFull(t, true, "", 0, func(c *api.Config) { c.Vrfs[1].Name = name })
	}
	for _, name := range notNames {
		for at := range 3 {
			wantFull(t, false, "vrf", at, func(c *api.Config) { c.Vrfs[at].Name = name })
		}
	}
	for i := range 3 {
		for k := range i {
			wantFull(t, false, "vrf", i, func(c *api.Config) { c.Vrfs[i].Name = c.Vrfs[k].Name })
			wantFull(t, false, "vrf", i, func(c *api.Config) { c.Vrfs[i].RD = c.Vrfs[k].RD })
		}
		wantFull(t, false, "vrf", i, func(c *api.Config) { c.Vrfs[i].RD = 0 })
	}
	for _, rd := range edges64 {
		wantFull(t, rd > 1 && rd < math.MaxUint64, "vrf", 2, func(c *api.Config) { c.Vrfs[2].RD = rd })
	}
	for n := range 20 {
		c := small()
		for i := range n {
			c.Vrfs = append(c.Vrfs, api.Vrf{Name: "v" + strconv.Itoa(i), RD: uint64(1 + i), Import: []uint64{target(1, uint64(i))}})
		}
		want(t, c, n <= 8, "vrf", 0)
	}
}

func TestP18_1Targets(t *testing.T) {
	lists := []func(c *api.Config) *[]uint64{
		func(c *api.Config) *[]uint64 { return &c.Vrfs[1].Import },
		func(c *api.Config) *[]uint64 { return &c.Vrfs[1].Export },
	}
	for _, list := range lists {
		for _, x := range edges64 {
			is := x>>48 == 2
			wantFull(t, is, "vrf", 1, func(c *api.Config) { *list(c) = []uint64{x} })
			wantFull(t, is && x > target(0, 0), "vrf", 1, func(c *api.Config) { *list(c) = []uint64{target(0, 0), x} })
			wantFull(t, is && x < target(65535, math.MaxUint32), "vrf", 1, func(c *api.Config) { *list(c) = []uint64{x, target(65535, math.MaxUint32)} })
		}
		for _, x := range []struct {
			l     []uint64
			right bool
		}{
			{[]uint64{}, true}, {[]uint64{target(1, 2), target(1, 3), target(2, 0)}, true}, {[]uint64{target(1, 2), target(1, 2)}, false}, {[]uint64{target(1, 3), target(1, 2)}, false},
			{[]uint64{target(2, 0), target(1, 9)}, false}, {[]uint64{target(1, 1), target(1, 3), target(1, 2), target(1, 4)}, false}, {[]uint64{target(1, 1), 0}, false}, {[]uint64{target(1, 1), target(1, 2), 3 << 48}, false},
			{[]uint64{1<<49 - 1, target(1, 2), target(1, 3)}, false},
		} {
			wantFull(t, x.right, "vrf", 1, func(c *api.Config) { *list(c) = x.l })
		}
		for _, n := range []int{1, 63, 64, 65, 66, 128, 256, 257, 320} {
			wantFull(t, n <= 64, "vrf", 1, func(c *api.Config) {
				for i := range n {
					*list(c) = append(*list(c), target(7, uint64(i)))
				}
			})
		}
	}
	// Each of the two lists may have as many.
	wantFull(t, true, "", 0, func(c *api.Config) {
		for i := range 64 {
			c.Vrfs[1].Import = append(c.Vrfs[1].Import, target(7, uint64(i)))
			c.Vrfs[1].Export = append(c.Vrfs[1].Export, target(8, uint64(i)))
		}
	})
}

func TestP18_1Statics(t *testing.T) {
	at := func(i int, change func(s *api.Static)) func(c *api.Config) {
		return func(c *api.Config) { change(&c.Statics[i]) }
	}
	for _, p := range []struct {
		p     api.Prefix
		right bool
	}{
		{api.Prefix{Fam: 1, Addr: "\x00\x00\x00\x00"}, true}, {api.Prefix{Fam: 1, Addr: "\xff\xff\xff\xff", Len: 32}, true}, {api.Prefix{Fam: 1, Addr: "\x0a\x00\x00\x00", Len: 7}, true},
		{api.Prefix{Fam: 3, Addr: ten.Addr, Len: 8}, false}, {api.Prefix{Fam: 4, Addr: ten.Addr, Len: 8}, false}, {api.Prefix{Fam: 4, RD: 7, Addr: ten.Addr, Len: 8}, false}, {api.Prefix{Fam: 0, Addr: ten.Addr, Len: 8}, false}, {api.Prefix{Fam: -1, Addr: ten.Addr, Len: 8}, false},
		{api.Prefix{Fam: 6, Addr: ten.Addr, Len: 8}, false}, {api.Prefix{Fam: 257, Addr: ten.Addr, Len: 8}, false}, {api.Prefix{Fam: 2, Addr: ten.Addr, Len: 8}, false}, {api.Prefix{Fam: 1, RD: 1, Addr: ten.Addr, Len: 8}, false}, {api.Prefix{Fam: 1, Addr: "\x0a\x00\x00\x01", Len: 8}, false},
		{api.Prefix{Fam: 1, Addr: ten.Addr, Len: 33}, false}, {api.Prefix{Fam: 1, Addr: ten.Addr, Len: -1}, false}, {api.Prefix{Fam: 1, Addr: ten.Addr, Len: 6}, false}, {api.Prefix{}, false},
	} {
		wantFull(t, p.right, "static", 0, at(0, func(s *api.Static) { s.Prefix = p.p }))
		wantFull(t, p.right, "static", 1, at(1, func(s *api.Static) { s.Prefix = p.p }))
	}
	for fam, right := range map[int]bool{2: true, 5: false, 1: false, 3: false, 6: false} {
		wantFull(t, right, "static", 2, at(2, func(s *api.Static) { s.Prefix.Fam = fam }))
	}
	for size := range 40 {
		wantFull(t, size == 4, "static", 0, at(0, func(s *api.Static) { s.Next = strings.Repeat("\x01", size) }))
		wantFull(t, size == 16, "static", 2, at(2, func(s *api.Static) { s.Next = strings.Repeat("\x01", size) }))
	}
	for _, vrf := range []string{"y", "V", "v ", "vv", "-", "p2", "a", "p", " "} {
		wantFull(t, false, "static", 0, at(0, func(s *api.Static) { s.Vrf = vrf }))
		wantFull(t, false, "static", 2, at(2, func(s *api.Static) { s.Vrf = vrf }))
	}
	for _, vrf := range []string{"", "v", "w", "x"} {
		wantFull(t, vrf != "v", "static", 1, func(c *api.Config) { c.Statics[0].Vrf = vrf })
		wantFull(t, vrf != "", "static", 1, at(1, func(s *api.Static) { s.Vrf = vrf }))
		wantFull(t, vrf != "", "static", 1, at(1, func(s *api.Static) { s.Vrf, s.Next = vrf, "abcd" }))
		wantFull(t, true, "", 0, at(1, func(s *api.Static) { s.Vrf, s.Prefix.Len = vrf, 9 }))
	}
}

func TestP18_1ManyStatics(t *testing.T) {
	for _, n := range []int{1, 63, 64, 65, 66, 128, 256, 257, 320} {
		c := small()
		for i := range n {
			c.Statics = append(c.Statics, api.Static{Prefix: api.Prefix{Fam: 1, Addr: string([]byte{9, byte(i >> 8), byte(i), 0}), Len: 24}, Next: next})
		}
		want(t, c, n <= 64, "static", 0)
		for _, twice := range []int{0, n / 2} {
			d := clone(c)
			d.Statics[n-1].Prefix = d.Statics[twice].Prefix
			want(t, d, n == 1, "static", map[bool]int{true: n - 1, false: 0}[n <= 64])
		}
	}
}

func TestP18_1Sets(t *testing.T) {
	wrong := []api.Set{
		{}, {Name: "z"}, {Name: "z", Kind: 4}, {Name: "z", Kind: -1}, {Kind: 2}, {Name: "Z", Kind: 2}, {Name: "z", Kind: 2, Comms: []uint32{2, 1}}, {Name: "z", Kind: 2, Comms: []uint32{1, 1}},
		{Name: "z", Kind: 1, Items: []api.Item{{Prefix: ten, Low: 7, High: 8}}}, {Name: "z", Kind: 1, Items: []api.Item{{Prefix: ten, Low: 9, High: 8}}}, {Name: "z", Kind: 1, Items: []api.Item{{Prefix: ten, Low: 9, High: 33}}}, {Name: "z", Kind: 1, Items: []api.Item{{}}},
		{Name: "z", Kind: 1, Comms: []uint32{1}}, {Name: "z", Kind: 3, Comms: []uint32{1}}, {Name: "z", Kind: 3, Paths: [][]api.Atom{{{Kind: 1}}}}, {Name: "z", Kind: 3, Paths: [][]api.Atom{{{Kind: 2, AS: 1}}}}, {Name: "z", Kind: 3, Paths: [][]api.Atom{{{Kind: 4}}}},
		{Name: "z", Kind: 2, Items: []api.Item{{Prefix: ten, Low: 8, High: 8}}}, {Name: "z", Kind: 3, Paths: make([][]api.Atom, 65)}, {Name: "z", Kind: 1, Items: slices.Repeat([]api.Item{{Prefix: ten, Low: 8, High: 8}}, 65)},
	}
	for _, s := range wrong {
		for at := range 5 {
			wantFull(t, false, "set", at, func(c *api.Config) { c.Sets = slices.Insert(c.Sets, at, s) })
		}
	}
	for i := range 4 {
		for k := range i {
			wantFull(t, false, "set", i, func(c *api.Config) { c.Sets[i].Name = c.Sets[k].Name })
		}
	}
	for _, name := range names {
		// The other three sets have names of one letter.
		wantFull(t, !slices.Contains([]string{"a"}, name), "set", 3, func(c *api.Config) { c.Sets[3].Name = name })
	}
	for _, name := range notNames {
		wantFull(t, false, "set", 3, func(c *api.Config) { c.Sets[3].Name = name })
	}
	for _, n := range []int{1, 2, 31, 32, 33, 34, 64, 65, 256, 257, 288, 2000} {
		c := small()
		for i := range n {
			c.Sets = append(c.Sets, api.Set{Name: "s" + strconv.Itoa(i), Kind: 1 + i%3})
		}
		want(t, c, n <= 32, "set", 0)
	}
	wantRight(t, edit(small(), func(c *api.Config) {
		c.Sets = []api.Set{{Name: "z", Kind: 1, Items: slices.Repeat([]api.Item{{Prefix: ten, Low: 8, High: 8}}, 64)}, {Name: "y", Kind: 3, Paths: make([][]api.Atom, 64)}}
	}))
}

func TestP18_1Rules(t *testing.T) {
	accept := []api.Action{{Kind: api.DoAccept}}
	wrong := []api.Policy{
		{}, {Name: "P"}, {Name: "z", Terms: make([]api.Term, 1)}, {Name: "z", Terms: slices.Repeat([]api.Term{{Actions: accept}}, 65)}, {Name: "z", Terms: []api.Term{{Actions: []api.Action{{Kind: api.DoPrepend, N: 9}}}}},
		{Name: "z", Terms: []api.Term{{Conds: []api.Cond{{Kind: api.IfPrefix, Name: "x"}}, Actions: accept}}}, {Name: "z", Terms: []api.Term{{Conds: []api.Cond{{Kind: api.IfPrefix, Name: "b"}}, Actions: accept}}},
		{Name: "z", Terms: []api.Term{{Conds: []api.Cond{{Kind: api.IfComm, Name: "a"}}, Actions: accept}}}, {Name: "z", Terms: []api.Term{{Conds: []api.Cond{{Kind: api.IfPath, Name: "b"}}, Actions: accept}}}, {Name: "z", Terms: []api.Term{{Actions: []api.Action{{Kind: api.DoDel, Name: "d"}}}}},
	}
	for _, p := range wrong {
		for at := range 4 {
			wantFull(t, false, "policy", at, func(c *api.Config) { c.Rules = slices.Insert(c.Rules, at, p) })
		}
	}
	for i := range 3 {
		for k := range i {
			wantFull(t, false, "policy", i, func(c *api.Config) { c.Rules[i].Name = c.Rules[k].Name; c.Peers = nil })
		}
	}
	for _, name := range names {
		wantFull(t, true, "", 0, func(c *api.Config) { c.Rules[2].Name = name })
	}
	for _, name := range notNames {
		wantFull(t, false, "policy", 2, func(c *api.Config) { c.Rules[2].Name = name })
	}
	for _, n := range []int{1, 2, 31, 32, 33, 34, 64, 65, 256, 257, 288, 2000} {
		c := small()
		for i := range n {
			c.Rules = append(c.Rules, api.Policy{Name: "p" + strconv.Itoa(i), Else: i%2 == 0, Terms: []api.Term{{Actions: accept}}})
		}
		want(t, c, n <= 32, "policy", 0)
	}
	wantRight(t, edit(small(), func(c *api.Config) {
		c.Rules = []api.Policy{{Name: "z", Terms: slices.Repeat([]api.Term{{Actions: accept}}, 64)}}
	}))
	// A rule asks the sets, wherever they stand; and without them it is wrong.
	wantFull(t, true, "", 0, func(c *api.Config) { slices.Reverse(c.Sets) })
	wantFull(t, false, "policy", 0, func(c *api.Config) { c.Sets = c.Sets[1:] })
	wantFull(t, false, "policy", 2, func(c *api.Config) {
		c.Sets = slices.Delete(c.Sets, 1, 2)
		c.Rules[0].Terms[0].Actions = c.Rules[0].Terms[0].Actions[1:]
	})
}

// A name of one kind of things is free for all others.
func TestP18_1OtherKinds(t *testing.T) {
	c := small()
	c.Vrfs = []api.Vrf{{Name: "a", RD: 1}}
	c.Peers = []api.Peer{outer(2)}
	c.Peers[0].Name, c.Peers[0].In, c.Peers[0].Out, c.Peers[0].Vrf = "a", "a", "a", "a"
	c.Statics = []api.Static{{Vrf: "a", Prefix: ten, Next: next}}
	c.Sets = []api.Set{{Name: "a", Kind: 2}}
	c.Rules = []api.Policy{{Name: "a"}}
	wantRight(t, c)
	for _, x := range []struct {
		line   string
		change func(c *api.Config)
	}{
		{"peer", func(c *api.Config) { c.Vrfs = nil }},
		{"peer", func(c *api.Config) { c.Rules = nil }},
		{"peer", func(c *api.Config) { c.Rules[0].Name = "b" }},
		{"static", func(c *api.Config) { c.Vrfs, c.Peers = nil, nil }},
	} {
		wantWrong(t, edit(c, x.change), x.line, 0)
	}
	wantRight(t, edit(c, func(c *api.Config) { c.Sets, c.Statics = nil, nil }))
}

// Lists of any length are judged, and go through all else.
func TestP18_1Huge(t *testing.T) {
	const many = 1 << 20
	for _, x := range []struct {
		line   string
		change func(c *api.Config)
	}{
		{"member", func(c *api.Config) { c.Members = make([]uint32, many) }},
		{"vrf", func(c *api.Config) { c.Vrfs = make([]api.Vrf, many) }},
		{"vrf", func(c *api.Config) { c.Vrfs[0].Import = make([]uint64, many) }},
		{"vrf", func(c *api.Config) { c.Vrfs[0].Name = strings.Repeat("a", many) }},
		{"peer", func(c *api.Config) { c.Peers = make([]api.Peer, many) }},
		{"peer", func(c *api.Config) { c.Peers[0].Fams = slices.Repeat([]int{1}, many) }},
		{"static", func(c *api.Config) { c.Statics = make([]api.Static, many) }},
		{"set", func(c *api.Config) { c.Sets = make([]api.Set, many) }},
		{"set", func(c *api.Config) { c.Sets[0].Items = make([]api.Item, many) }},
		{"policy", func(c *api.Config) { c.Rules = append(c.Rules, make([]api.Policy, many)...) }},
		{"policy", func(c *api.Config) { c.Rules[0].Terms = make([]api.Term, many) }},
	} {
		c := edit(full(), x.change)
		s, e := conf.Print(c)
		if err := conf.Check(c); err != api.ErrConf || e != api.ErrConf || s != "" {
			t.Errorf("%s: Check %d, Print %d", x.line, err, e)
		}
		if !conf.Same(c, c) || conf.Same(c, full()) || conf.Same(full(), c) {
			t.Errorf("%s: Same", x.line)
		}
		if _, is := conf.Peer(c, "nobody"); is {
			t.Errorf("%s: Peer", x.line)
		}
	}
}
