package open_test

import (
	"math/rand"
	"slices"
	"testing"

	"herald/api"
	"herald/open"
)

// agreed is the model of sessions: family by family.
func agreed(mine, theirs api.Open) api.Session {
	s := api.Session{Hold: mine.Hold, Four: mine.Four && theirs.Four, Refresh: mine.Refresh && theirs.Refresh, HasGR: theirs.HasGR, Again: theirs.Again, Time: theirs.Time}
	if theirs.Hold < s.Hold {
		s.Hold = theirs.Hold
	}
	way := func(o api.Open, f int) (a api.Add) {
		for _, x := range o.Adds {
			if x.Fam == f {
				a = x
			}
		}
		return a
	}
	for f := 1; f <= 5; f++ {
		if !slices.Contains(mine.Fams, f) || !slices.Contains(theirs.Fams, f) {
			continue
		}
		s.Fams = append(s.Fams, f)
		if way(mine, f).Send && way(theirs, f).Take {
			s.Send = append(s.Send, f)
		}
		if way(mine, f).Take && way(theirs, f).Send {
			s.Take = append(s.Take, f)
		}
		for _, r := range theirs.Kept {
			if r.Fam == f {
				s.Kept = append(s.Kept, r)
			}
		}
	}
	return s
}

func wantAgree(t *testing.T, mine, theirs api.Open, want api.Session) {
	t.Helper()
	if s, err := open.Agree(mine, theirs); err != api.OK || !sameSession(s, want) {
		t.Errorf("Agree(%+v, %+v) = %+v, %d, not %+v", mine, theirs, s, err, want)
	}
	if model := agreed(mine, theirs); !sameSession(model, want) {
		t.Errorf("the model of (%+v, %+v): %+v, not %+v", mine, theirs, model, want)
	}
}

func TestP10_4Examples(t *testing.T) {
	mine := with(small(), func(o *api.Open) { o.Fams = []int{api.V4, api.V6} })
	theirs := with(small(), func(o *api.Open) { o.Hold, o.Fams = 30, []int{api.V6, api.L4} })
	wantAgree(t, mine, theirs, api.Session{Hold: 30, Fams: []int{api.V6}})
}

func TestP10_4ByHand(t *testing.T) {
	adds := func(l ...api.Add) func(o *api.Open) {
		return func(o *api.Open) { o.Fams, o.Adds = []int{1, 2, 3}, l }
	}
	send, take := func(f int) api.Add { return api.Add{Fam: f, Send: true} }, func(f int) api.Add { return api.Add{Fam: f, Take: true} }
	both := func(f int) api.Add { return api.Add{Fam: f, Send: true, Take: true} }
	all := []int{1, 2, 3}
	for _, c := range []struct {
		mine, theirs func(o *api.Open)
		want         api.Session
	}{
		{func(o *api.Open) { o.Hold = 0 }, func(o *api.Open) {}, api.Session{Hold: 0, Fams: []int{1}}},
		{func(o *api.Open) {}, func(o *api.Open) { o.Hold = 0 }, api.Session{Hold: 0, Fams: []int{1}}},
		{func(o *api.Open) { o.Hold = 0 }, func(o *api.Open) { o.Hold = 0 }, api.Session{Hold: 0, Fams: []int{1}}},
		{func(o *api.Open) { o.Hold = 3 }, func(o *api.Open) { o.Hold = 65535 }, api.Session{Hold: 3, Fams: []int{1}}},
		{func(o *api.Open) { o.Hold = 65535 }, func(o *api.Open) { o.Hold = 3 }, api.Session{Hold: 3, Fams: []int{1}}},
		{func(o *api.Open) { o.Fams = []int{1, 3, 5} }, func(o *api.Open) { o.Fams = []int{2, 4} }, api.Session{Hold: 90}},
		{func(o *api.Open) { o.Fams = []int{1, 3, 5} }, func(o *api.Open) { o.Fams = []int{1, 2, 3, 4, 5} }, api.Session{Hold: 90, Fams: []int{1, 3, 5}}},
		{func(o *api.Open) { o.Four = true }, func(o *api.Open) { o.Four = true }, api.Session{Hold: 90, Fams: []int{1}, Four: true}},
		{func(o *api.Open) { o.Four = true }, func(o *api.Open) {}, api.Session{Hold: 90, Fams: []int{1}}},
		{func(o *api.Open) {}, func(o *api.Open) { o.Four = true }, api.Session{Hold: 90, Fams: []int{1}}},
		{func(o *api.Open) { o.Refresh = true }, func(o *api.Open) { o.Refresh = true }, api.Session{Hold: 90, Fams: []int{1}, Refresh: true}},
		{func(o *api.Open) { o.Refresh = true }, func(o *api.Open) {}, api.Session{Hold: 90, Fams: []int{1}}},
		{func(o *api.Open) {}, func(o *api.Open) { o.Refresh = true }, api.Session{Hold: 90, Fams: []int{1}}},
		{adds(send(1), take(2), both(3)), adds(take(1), send(2), both(3)), api.Session{Hold: 90, Fams: all, Send: []int{1, 3}, Take: []int{2, 3}}},
		{adds(send(1), take(2), both(3)), adds(send(1), take(2), send(3)), api.Session{Hold: 90, Fams: all, Take: []int{3}}},
		{adds(both(1), both(2)), adds(both(2), both(3)), api.Session{Hold: 90, Fams: all, Send: []int{2}, Take: []int{2}}},
		{adds(both(1), both(2)), adds(), api.Session{Hold: 90, Fams: all}},
		// Path ids of a family that is not in both Fams count for nothing.
		{adds(both(4), both(5)), adds(both(4), both(5)), api.Session{Hold: 90, Fams: all}},
		{func(o *api.Open) { o.Adds = []api.Add{both(1), both(2)} }, adds(both(1), both(2)), api.Session{Hold: 90, Fams: []int{1}, Send: []int{1}, Take: []int{1}}},
		{adds(both(1), both(2)), func(o *api.Open) { o.Adds = []api.Add{both(1), both(2)} }, api.Session{Hold: 90, Fams: []int{1}, Send: []int{1}, Take: []int{1}}},
		// Restarts are theirs alone.
		{func(o *api.Open) {
			o.HasGR, o.Again, o.Time, o.Kept = true, true, 7, []api.Restart{{Fam: 1, Kept: true}}
		}, func(o *api.Open) {}, api.Session{Hold: 90, Fams: []int{1}}},
		{func(o *api.Open) {}, func(o *api.Open) {
			o.HasGR, o.Again, o.Time, o.Kept = true, true, 7, []api.Restart{{Fam: 1, Kept: true}, {Fam: 2, Kept: true}}
		}, api.Session{Hold: 90, Fams: []int{1}, HasGR: true, Again: true, Time: 7, Kept: []api.Restart{{Fam: 1, Kept: true}}}},
		{func(o *api.Open) { o.HasGR, o.Again, o.Time = true, true, 9 }, func(o *api.Open) { o.HasGR, o.Time, o.Kept = true, 4095, []api.Restart{{Fam: 1}} }, api.Session{Hold: 90, Fams: []int{1}, HasGR: true, Time: 4095, Kept: []api.Restart{{Fam: 1}}}},
		{func(o *api.Open) {}, func(o *api.Open) { o.HasGR, o.Kept = true, []api.Restart{{Fam: 4, Kept: true}} }, api.Session{Hold: 90, Fams: []int{1}, HasGR: true}},
	} {
		wantAgree(t, with(small(), c.mine), with(small(), c.theirs), c.want)
	}
}

func TestP10_4Many(t *testing.T) {
	r := rand.New(rand.NewSource(104))
	for range 20000 {
		mine, theirs := anyOpen(r), anyOpen(r)
		wantAgree(t, mine, theirs, agreed(mine, theirs))
	}
	wantAgree(t, full(), full(), agreed(full(), full()))
}

func TestP10_4MayNotBe(t *testing.T) {
	for _, wrong := range wrongs() {
		for _, pair := range [][2]api.Open{{wrong, full()}, {full(), wrong}, {wrong, wrong}, {wrong, small()}, {small(), wrong}} {
			if s, err := open.Agree(pair[0], pair[1]); err != api.ErrArg || !sameSession(s, api.Session{}) {
				t.Errorf("Agree(%+v, %+v) = %+v, %d", pair[0], pair[1], s, err)
			}
		}
	}
}

func TestP10_7TurnedAbout(t *testing.T) {
	r := rand.New(rand.NewSource(107))
	sent := 0
	for range 20000 {
		a, b := anyOpen(r), anyOpen(r)
		one, err := open.Agree(a, b)
		other, otherErr := open.Agree(b, a)
		if err != api.OK || otherErr != api.OK {
			t.Fatalf("Agree(%+v, %+v): %d, turned about %d", a, b, err, otherErr)
		}
		if one.Hold != other.Hold || !slices.Equal(one.Fams, other.Fams) || one.Four != other.Four || one.Refresh != other.Refresh || !slices.Equal(one.Send, other.Take) || !slices.Equal(one.Take, other.Send) {
			t.Errorf("Agree(%+v, %+v) = %+v, turned about %+v", a, b, one, other)
		}
		sent += len(one.Send)
	}
	if sent < 1000 {
		t.Errorf("just %d families had path ids", sent)
	}
}

// peer is a neighbour of config, outside of it.
func peer(changes ...func(p *api.Peer)) api.Peer {
	p := api.Peer{Name: "a", AS: 65002, Hold: 90, Retry: 5, Fams: []int{api.V4, api.Vpn4}, Send: 1}
	for _, change := range changes {
		change(&p)
	}
	return p
}

func config(changes ...func(c *api.Config)) api.Config {
	c := api.Config{AS: 65001, Id: 7}
	for _, change := range changes {
		change(&c)
	}
	return c
}

func wantOf(t *testing.T, c api.Config, p api.Peer, again bool, want api.Open) {
	t.Helper()
	if o, err := open.Of(c, p, again); err != api.OK || !sameOpen(o, want) || open.Check(o) != api.OK {
		t.Errorf("Of(%+v, %+v, %t) = %+v, %d, not %+v", c, p, again, o, err, want)
	}
}

// plain is the open of config for peer, changed.
func plain(changes ...func(o *api.Open)) api.Open {
	return with(api.Open{AS: 65001, Hold: 90, Id: 7, Fams: []int{api.V4, api.Vpn4}, Four: true, Refresh: true}, changes...)
}

func TestP10_5Plain(t *testing.T) {
	wantOf(t, config(), peer(), false, plain())
	// Again is told by a restart's capability alone, as is Time.
	wantOf(t, config(), peer(), true, plain())
	wantOf(t, config(), peer(func(p *api.Peer) { p.Time = 120 }), true, plain())
	wantOf(t, config(), peer(func(p *api.Peer) { p.Time = 1 << 40 }), true, plain())
	wantOf(t, config(), peer(func(p *api.Peer) { p.Hold = 0 }), false, plain(func(o *api.Open) { o.Hold = 0 }))
	wantOf(t, config(), peer(func(p *api.Peer) { p.Hold = 65535 }), false, plain(func(o *api.Open) { o.Hold = 65535 }))
	wantOf(t, config(func(c *api.Config) { c.AS, c.Id = 1<<32-1, 1<<32-1 }), peer(), false, plain(func(o *api.Open) { o.AS, o.Id = 1<<32-1, 1<<32-1 }))
	wantOf(t, config(), peer(func(p *api.Peer) { p.Fams = []int{1, 2, 3, 4, 5} }), false, plain(func(o *api.Open) { o.Fams = []int{1, 2, 3, 4, 5} }))
}

// TestP10_5Confed: the confederation's AS is told to those who are neither members nor of the own AS.
func TestP10_5Confed(t *testing.T) {
	for _, c := range []struct {
		as, confed uint32
		peerAS     uint32
		member     bool
		want       uint32
	}{
		{65001, 0, 65002, false, 65001},
		{65001, 0, 65002, true, 65001},
		{65001, 0, 65001, false, 65001},
		{65001, 100, 65002, false, 100},
		{65001, 100, 65002, true, 65001},
		{65001, 100, 65001, false, 65001},
		{65001, 100, 65001, true, 65001},
		{65001, 100, 100, false, 100},
		{65001, 100, 0, false, 100},
		{65001, 70000, 65002, false, 70000},
		{70000, 100, 65002, true, 70000},
		{0, 100, 65002, false, 100},
	} {
		conf := config(func(x *api.Config) { x.AS, x.Confed = c.as, c.confed })
		p := peer(func(p *api.Peer) { p.AS, p.Confed = c.peerAS, c.member })
		wantOf(t, conf, p, false, plain(func(o *api.Open) { o.AS = c.want }))
	}
}

func TestP10_5Adds(t *testing.T) {
	for send := -3; send <= 20; send++ {
		for _, take := range []bool{false, true} {
			p := peer(func(p *api.Peer) { p.Send, p.Take = send, take })
			var adds []api.Add
			if send > 1 || take {
				adds = []api.Add{{Fam: api.V4, Send: send > 1, Take: take}, {Fam: api.Vpn4, Send: send > 1, Take: take}}
			}
			wantOf(t, config(), p, false, plain(func(o *api.Open) { o.Adds = adds }))
		}
	}
}

func TestP10_5Restart(t *testing.T) {
	for _, again := range []bool{false, true} {
		for _, time := range []int{0, 1, 120, 4095} {
			p := peer(func(p *api.Peer) { p.GR, p.Time = true, time })
			wantOf(t, config(), p, again, plain(func(o *api.Open) {
				o.HasGR, o.Again, o.Time = true, again, time
				o.Kept = []api.Restart{{Fam: api.V4, Kept: again}, {Fam: api.Vpn4, Kept: again}}
			}))
		}
	}
	wantOf(t, config(), peer(func(p *api.Peer) { p.GR, p.Send, p.Take = true, 8, true }), true, plain(func(o *api.Open) {
		o.HasGR, o.Again = true, true
		o.Kept = []api.Restart{{Fam: api.V4, Kept: true}, {Fam: api.Vpn4, Kept: true}}
		o.Adds = []api.Add{{Fam: api.V4, Send: true, Take: true}, {Fam: api.Vpn4, Send: true, Take: true}}
	}))
}

func TestP10_5MayNotBe(t *testing.T) {
	refuse := func(c api.Config, p api.Peer) {
		t.Helper()
		for _, again := range []bool{false, true} {
			if o, err := open.Of(c, p, again); err != api.ErrArg || !sameOpen(o, api.Open{}) {
				t.Errorf("Of(%+v, %+v, %t) = %+v, %d", c, p, again, o, err)
			}
		}
	}
	refuse(api.Config{}, api.Peer{})
	refuse(config(), api.Peer{})
	refuse(api.Config{}, peer())
	refuse(config(func(c *api.Config) { c.AS = 0 }), peer())
	refuse(config(func(c *api.Config) { c.AS, c.Confed = 0, 100 }), peer(func(p *api.Peer) { p.Confed = true }))
	refuse(config(func(c *api.Config) { c.Id = 0 }), peer())
	for _, hold := range []int{-1 << 63, -90, -1, 1, 2, 65536, 1 << 32, 1<<63 - 1} {
		refuse(config(), peer(func(p *api.Peer) { p.Hold = hold }))
	}
	for _, fams := range [][]int{nil, {}, {0}, {6}, {-1}, {1, 1}, {2, 1}, {1, 0}, {1, 2, 3, 4, 5, 6}, slices.Repeat([]int{1}, 1<<16)} {
		refuse(config(), peer(func(p *api.Peer) { p.Fams = fams }))
		refuse(config(), peer(func(p *api.Peer) { p.Fams, p.Take, p.GR, p.Send = fams, true, true, 8 }))
	}
	for _, time := range []int{-1 << 63, -1, 4096, 65535, 1 << 32, 1<<63 - 1} {
		refuse(config(), peer(func(p *api.Peer) { p.GR, p.Time = true, time }))
	}
}

// scrawl changes all that the lists of an open hold, and the room behind them.
func scrawl(o *api.Open) {
	fams, adds, kept := o.Fams[:cap(o.Fams)], o.Adds[:cap(o.Adds)], o.Kept[:cap(o.Kept)]
	for i := range fams {
		fams[i] = -7
	}
	for i := range adds {
		adds[i] = api.Add{Fam: -7}
	}
	for i := range kept {
		kept[i] = api.Restart{Fam: -7}
	}
}

// roomy is an open with the same lists, each with room behind its end that holds something.
func roomy(o api.Open) api.Open {
	o.Fams = append(slices.Clone(o.Fams), 9, 9)[:len(o.Fams)]
	o.Adds = append(slices.Clone(o.Adds), api.Add{Fam: 9}, api.Add{Fam: 9})[:len(o.Adds)]
	o.Kept = append(slices.Clone(o.Kept), api.Restart{Fam: 9}, api.Restart{Fam: 9})[:len(o.Kept)]
	return o
}

func untouched(o, was api.Open) bool {
	n, a, k := len(o.Fams), len(o.Adds), len(o.Kept)
	return sameOpen(o, was) && slices.Equal(o.Fams[n:n+2], []int{9, 9}) &&
		slices.Equal(o.Adds[a:a+2], []api.Add{{Fam: 9}, {Fam: 9}}) && slices.Equal(o.Kept[k:k+2], []api.Restart{{Fam: 9}, {Fam: 9}})
}

// TestR5HandedIn: what is handed in, and the room behind it, stays as it was, and is not kept.
func TestR5HandedIn(t *testing.T) {
	r := rand.New(rand.NewSource(105))
	for range 2000 {
		mine, theirs := anyOpen(r), anyOpen(r)
		a, b := roomy(mine), roomy(theirs)
		open.Check(a)
		open.Accept(a, b.AS, b.Id)
		open.Encode(a)
		s, err := open.Agree(a, b)
		if err != api.OK || !untouched(a, mine) || !untouched(b, theirs) {
			t.Errorf("Agree(%+v, %+v) left %+v, %+v", mine, theirs, a, b)
		}
		scrawl(&a)
		scrawl(&b)
		if !sameSession(s, agreed(mine, theirs)) {
			t.Errorf("Agree(%+v, %+v): a change of what was handed in reached the session: %+v", mine, theirs, s)
		}
	}
	p := peer(func(p *api.Peer) { p.Fams, p.GR, p.Take = []int{1, 4, 9, 9}[:2], true, true })
	o, _ := open.Of(config(), p, false)
	if all := p.Fams[:4]; !slices.Equal(all, []int{1, 4, 9, 9}) {
		t.Errorf("Of left %v", all)
	}
	p.Fams[0] = 5
	if !slices.Equal(o.Fams, []int{1, 4}) {
		t.Errorf("a change of the neighbour's families reached the open: %v", o.Fams)
	}
}

// TestR5Answered: a change of an answer, or of the room behind its lists, reaches neither what was handed in nor the answer's other lists.
func TestR5Answered(t *testing.T) {
	r := rand.New(rand.NewSource(108))
	for range 2000 {
		mine, theirs := anyOpen(r), anyOpen(r)
		a, b, want := roomy(mine), roomy(theirs), agreed(mine, theirs)
		for _, list := range []func(s *api.Session) *[]int{
			func(s *api.Session) *[]int { return &s.Fams },
			func(s *api.Session) *[]int { return &s.Send },
			func(s *api.Session) *[]int { return &s.Take },
		} {
			s, _ := open.Agree(a, b)
			l := list(&s)
			for i := range (*l)[:cap(*l)] {
				(*l)[:cap(*l)][i] = -7
			}
			*l = *list(&want)
			if !sameSession(s, want) {
				t.Fatalf("Agree(%+v, %+v): a change of one list reached another one: %+v", mine, theirs, s)
			}
			for i := range s.Kept {
				s.Kept[i].Fam = -7
			}
		}
		if !untouched(a, mine) || !untouched(b, theirs) {
			t.Errorf("a change of Agree's answer left %+v, %+v of %+v, %+v", a, b, mine, theirs)
		}
	}
	p := peer(func(p *api.Peer) { p.GR, p.Take = true, true })
	o, _ := open.Of(config(), p, true)
	scrawl(&o)
	if !slices.Equal(p.Fams, []int{api.V4, api.Vpn4}) {
		t.Errorf("a change of Of's answer left %v", p.Fams)
	}
}
