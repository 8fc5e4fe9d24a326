package fsm_test

import (
	"math"
	"reflect"
	"testing"

	"herald/api"
	"herald/fsm"
)

// mayNot are opens that may not be, by what is wrong with them.
func mayNot() map[string]api.Open {
	l := map[string]api.Open{"zero": {}}
	add := func(name string, change func(o *api.Open)) {
		o := all(2, 9, 90)
		change(&o)
		l[name] = o
	}
	add("AS 0", func(o *api.Open) { o.AS = 0 })
	add("AS 65536 of two bytes", func(o *api.Open) { o.AS, o.Four = 65536, false })
	add("Id 0", func(o *api.Open) { o.Id = 0 })
	add("Hold -1", func(o *api.Open) { o.Hold = -1 })
	add("Hold 1", func(o *api.Open) { o.Hold = 1 })
	add("Hold 2", func(o *api.Open) { o.Hold = 2 })
	add("Hold 65536", func(o *api.Open) { o.Hold = 65536 })
	add("no family", func(o *api.Open) { o.Fams = nil })
	add("family 0", func(o *api.Open) { o.Fams[0] = 0 })
	add("family 6", func(o *api.Open) { o.Fams[4] = 6 })
	add("families that fall", func(o *api.Open) { o.Fams[0], o.Fams[1] = api.V6, api.V4 })
	add("a family twice", func(o *api.Open) { o.Fams[1] = api.V4 })
	add("path ids neither way", func(o *api.Open) { o.Adds[2] = api.Add{Fam: api.L4} })
	add("path ids twice", func(o *api.Open) { o.Adds[1].Fam = api.V4 })
	add("a restart without its word", func(o *api.Open) { o.HasGR = false })
	add("a restart's time", func(o *api.Open) { o.Time = 4096 })
	add("a restart twice", func(o *api.Open) { o.Kept[1].Fam = api.V4 })
	return l
}

func TestP20_1New(t *testing.T) {
	for _, retry := range []int{1, 2, 30, 65534, 65535} {
		for _, p := range []api.Peer{
			{AS: 2}, {AS: 2, Passive: true}, {},
			{Name: "No name", Addr: "x", AS: math.MaxUint32, Hold: -1, Passive: true, Fams: []int{9, 9}, Send: -7, Most: -1, Time: 9999, Mrai: -1, In: "?"},
		} {
			p.Retry = retry
			for _, mine := range []api.Open{an(1, 7, 0), an(1, 7, 90), all(70000, 1, 65535)} {
				x, o := roomy(p), roomy(mine)
				m, err := fsm.New(x, o)
				if err != api.OK || m == nil || m.State() != api.Idle {
					t.Fatalf("New: %d of %s, %s", err, short(p), short(mine))
				}
				wantKept(t, "New, the peer", x, p)
				wantKept(t, "New, the open", o, mine)
				wantApart(t, "New", *m, x, o)
				wantOwn(t, m)
				if _, is := m.Session(); is {
					t.Error("a new machine has a session")
				}
			}
		}
	}
}

func TestP20_1NewRetry(t *testing.T) {
	for _, retry := range []int{math.MinInt, -65535, -1, 0, 65536, 65537, 1 << 32, 1<<32 + 30, math.MaxInt} {
		for _, passive := range []bool{false, true} {
			if m, err := fsm.New(api.Peer{AS: 2, Retry: retry, Passive: passive}, an(1, 7, 90)); m != nil || err != api.ErrArg {
				t.Errorf("New with Retry %d: %v, %d", retry, m, err)
			}
		}
	}
}

func TestP20_1NewOpen(t *testing.T) {
	for name, o := range mayNot() {
		for _, retry := range []int{0, 30} {
			for _, passive := range []bool{false, true} {
				x := roomy(o)
				if m, err := fsm.New(api.Peer{AS: 2, Retry: retry, Passive: passive}, x); m != nil || err != api.ErrArg {
					t.Errorf("New, %s, Retry %d: %v, %d", name, retry, m, err)
				}
				wantKept(t, "New", x, o)
			}
		}
	}
}

// What is handed to New may be changed afterwards: the machine keeps the open as it was.
func TestP20_1NewKeeps(t *testing.T) {
	p, mine := roomy(api.Peer{Name: "a", AS: 2, Retry: 30, Fams: []int{api.V4}}), roomy(all(1, 7, 90))
	m := made(t, p, mine)
	spoil(reflect.ValueOf(mine))
	spoil(reflect.ValueOf(p))
	reach(t, m, "Established", all(2, 9, 30))
	want := api.Session{Hold: 30, Fams: []int{1, 2, 3, 4, 5}, Four: true, Refresh: true, Send: []int{1, 3, 4, 5}, Take: []int{1, 3, 4, 5}, HasGR: true, Again: true, Time: 120, Kept: all(2, 9, 30).Kept}
	if s, is := m.Session(); !is || !same(s, want) {
		t.Errorf("Session: %+v, want %+v", s, want)
	}
}

func TestP20_1State(t *testing.T) {
	for _, passive := range []bool{false, true} {
		for n, state := range stateWords[1:] {
			if passive && state == "Connect" {
				continue
			}
			m := at(t, state, passive, 30)
			if m.State() != n+1 {
				t.Errorf("State: %d in %s", m.State(), state)
			}
			s, is := m.Session()
			o, has := m.Theirs()
			if n+1 < api.OpenConfirm {
				if is || has || !same(s, api.Session{}) || !same(o, api.Open{}) {
					t.Errorf("%s: %+v, %t; %+v, %t", state, s, is, o, has)
				}
			} else if !is || !has || !same(s, api.Session{Hold: 30, Fams: []int{api.V4}}) || !same(o, an(2, 9, 30)) {
				t.Errorf("%s: %+v, %t; %+v, %t", state, s, is, o, has)
			}
			wantOwn(t, m)
		}
	}
}

// A machine that has ended has no session any more.
func TestP20_1NoSessionBehindAnEnd(t *testing.T) {
	for _, state := range []string{"OpenConfirm", "Established"} {
		for _, word := range []string{"Hold", "Note", "Closed", "Open", "Stop"} {
			m := at(t, state, false, 30)
			m.Do(input(word))
			s, is := m.Session()
			o, has := m.Theirs()
			if m.State() != api.Idle || is || has || !same(s, api.Session{}) || !same(o, api.Open{}) {
				t.Errorf("%s, %s: %d, %+v, %t; %+v, %t", state, word, m.State(), s, is, o, has)
			}
			for _, next := range []string{"Start", "Connected"} {
				m.Do(input(next))
				if _, is := m.Session(); is {
					t.Errorf("%s, %s, then %s: a session", state, word, next)
				}
			}
		}
	}
}

// wantNone looks at a machine that is none.
func wantNone(t *testing.T, what string, m *fsm.Machine) {
	t.Helper()
	s, is := m.Session()
	o, has := m.Theirs()
	if m.State() != 0 || is || has || !same(s, api.Session{}) || !same(o, api.Open{}) || m.Copy() != nil {
		t.Errorf("%s: %d, %+v, %t; %+v, %t; %v", what, m.State(), s, is, o, has, m.Copy())
	}
}

func TestP20_1None(t *testing.T) {
	for what, m := range map[string]*fsm.Machine{"nil": nil, "zero": {}, "new": new(fsm.Machine)} {
		wantNone(t, what, m)
		for _, kind := range append(kinds(), api.InStart, api.InRetry, api.InConnected, api.InOpen, api.InKeep) {
			if l := m.Do(api.Input{Kind: kind, Open: an(2, 9, 30), Verdict: api.Verdict{Action: api.Reset, Code: 3, Sub: 1}}); len(l) != 0 {
				t.Errorf("%s: Do of %d: %+v", what, kind, l)
			}
			wantNone(t, what, m)
		}
	}
}

// With an error New's machine is nil: its methods tell nothing.
func TestP20_1RefusedIsNone(t *testing.T) {
	m, _ := fsm.New(api.Peer{AS: 2}, an(1, 7, 90))
	wantNone(t, "refused", m)
}

// kinds are all kinds of inputs, and numbers that are none.
func kinds() []int {
	l := []int{math.MinInt, -7, -1, 0}
	for kind := api.InStart; kind <= api.InDelay; kind++ {
		l = append(l, kind)
	}
	return append(l, api.InDelay+1, 99, 1<<32+api.InStart, math.MaxInt)
}

func TestP20_1Copy(t *testing.T) {
	for _, state := range stateWords[1:] {
		m := reach(t, made(t, peer(false), all(1, 7, 90)), state, all(2, 9, 30))
		for _, word := range inputWords[1:] {
			c := m.Copy()
			if c == nil || c == m {
				t.Fatalf("%s: Copy: %v", state, c)
			}
			wantApart(t, "Copy", *m, *c)
			wantAlike(t, c, m)
			was := m.Copy()
			c.Do(input(word))
			c.Do(input("Start"))
			wantAlike(t, m, was)
			d := was.Copy()
			d.Do(input(word))
			d.Do(input("Start"))
			wantAlike(t, c, d)
			wantOwn(t, c)
		}
	}
}

// A copy knows whether it is wanted, of whom it is, and goes on when the first one is stopped.
func TestP20_1CopyGoesOn(t *testing.T) {
	m := at(t, "Established", false, 30)
	m.Do(input("Note"))
	c := m.Copy()
	wantRun(t, m,
		step{input("Stop"), "cancel retry", "Idle"},
		step{input("Retry"), "", "Idle"})
	wantRun(t, c,
		step{input("Retry"), "connect, arm retry 30", "Connect"},
		step{input("Connected"), "cancel retry, open, arm hold 240", "OpenSent"})
	wantRun(t, c.Copy(), step{opens(an(3, 9, 30)), "note 2 2, close, cancel hold, cancel send, arm retry 30", "Idle"})
	wantRun(t, c.Copy(), step{opens(an(2, 7, 30)), "note 2 3, close, cancel hold, cancel send, arm retry 30", "Idle"})
	d := c.Copy()
	wantRun(t, d, step{opens(an(2, 9, 30)), "keep, arm hold 30, arm send 10", "OpenConfirm"})
	wantRun(t, c, step{opens(an(2, 9, 3)), "keep, arm hold 3, arm send 1", "OpenConfirm"})
	wantRun(t, d, step{input("Keep"), "arm hold 30, up", "Established"})
	wantRun(t, c, step{input("Send"), "keep, arm send 1", "OpenConfirm"})
	wantRun(t, at(t, "Idle", true, 30).Copy(), step{input("Start"), "", "Active"})
}

// wantAlike looks whether two machines tell the same of themselves.
func wantAlike(t *testing.T, a, b *fsm.Machine) {
	t.Helper()
	s, is := a.Session()
	r, has := b.Session()
	o, _ := a.Theirs()
	q, _ := b.Theirs()
	if a.State() != b.State() || is != has || !same(s, r) || !same(o, q) {
		t.Errorf("two machines differ: %d %+v %+v, %d %+v %+v", a.State(), s, o, b.State(), r, q)
	}
}
