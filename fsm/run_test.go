package fsm_test

import (
	"math/rand/v2"
	"testing"

	"herald/api"
	"herald/fsm"
)

// anyOpen is an open that may be or not, mostly one that will do.
func anyOpen(r *rand.Rand, mine api.Open) api.Open {
	if r.IntN(12) == 0 {
		return mayNot()[[]string{"zero", "AS 0", "Hold 1", "Hold 65536", "no family", "a family twice", "a restart twice"}[r.IntN(7)]]
	}
	o := api.Open{AS: 2, Id: 9, Hold: []int{0, 3, 4, 5, 30, 31, 90, 65535}[r.IntN(8)], Four: r.IntN(2) == 0, Refresh: r.IntN(2) == 0}
	if r.IntN(12) == 0 {
		o.AS = 3
	}
	if r.IntN(12) == 0 {
		o.Id = mine.Id
	}
	for fam := api.V4; fam <= api.Families; fam++ {
		if r.IntN(2) == 0 {
			o.Fams = append(o.Fams, fam)
		}
		if r.IntN(3) == 0 {
			o.Adds = append(o.Adds, api.Add{Fam: fam, Send: true, Take: r.IntN(2) == 0})
		}
	}
	if len(o.Fams) == 0 {
		o.Fams = []int{1 + r.IntN(api.Families)}
	}
	if r.IntN(3) == 0 {
		o.HasGR, o.Again, o.Time = true, r.IntN(2) == 0, r.IntN(4096)
		o.Kept = []api.Restart{{Fam: 1 + r.IntN(api.Families), Kept: r.IntN(2) == 0}}
	}
	return o
}

// anyPeer is a peer whose fields count, and its own open.
func anyPeer(r *rand.Rand) (api.Peer, api.Open) {
	p := api.Peer{AS: []uint32{0, 2, 2, 2}[r.IntN(4)], Retry: 1 + r.IntN(65535), Passive: r.IntN(3) == 0}
	for {
		mine := anyOpen(r, api.Open{Id: 7})
		if mine.Id = 7; fsmTakes(p, mine) {
			return p, mine
		}
	}
}

func fsmTakes(p api.Peer, mine api.Open) bool {
	_, err := fsm.New(p, mine)
	return err == api.OK
}

// likely are inputs by which a machine gets on, by states.
var likely = map[string][]int{
	"Idle":        {api.InStart, api.InRetry},
	"Connect":     {api.InConnected, api.InRefused, api.InRetry},
	"Active":      {api.InConnected, api.InRetry},
	"OpenSent":    {api.InOpen},
	"OpenConfirm": {api.InKeep, api.InSend},
	"Established": {api.InKeep, api.InUpdate, api.InSend, api.InBad},
}

// anyInput is one that stands in a row of the state, more often than not; fields that do not count are set, too.
func anyInput(r *rand.Rand, state string, mine api.Open) api.Input {
	in := api.Input{Kind: r.IntN(len(inputWords)+2) - 1, Open: anyOpen(r, mine)}
	if r.IntN(3) > 0 {
		l := likely[state]
		in.Kind = l[r.IntN(len(l))]
	}
	if r.IntN(2) == 0 {
		in.Verdict = api.Verdict{Action: r.IntN(6) - 1, Code: uint8(r.IntN(8)), Sub: uint8(r.IntN(12))}
	}
	return in
}

// wantAsModel looks whether a machine tells of itself what the model does.
func wantAsModel(t *testing.T, m *fsm.Machine, x *model) {
	t.Helper()
	s, is := m.Session()
	o, has := m.Theirs()
	if is != (x.session != nil) || has != (x.theirs != nil) {
		t.Fatalf("%s: session %t, open %t", x.state, is, has)
	}
	if is && (!same(s, *x.session) || !same(o, *x.theirs)) {
		t.Fatalf("%s: %+v, %+v, want %+v, %+v", x.state, s, o, *x.session, *x.theirs)
	}
}

// Long runs of any inputs, held against the model; now and then a copy goes on beside the first one.
func TestP20_2Runs(t *testing.T) {
	r := rand.New(rand.NewPCG(20, 2))
	met := map[[2]int]int{}
	for range 400 {
		p, mine := anyPeer(r)
		machines, models := []*fsm.Machine{made(t, p, mine)}, []*model{modelNew(p, mine)}
		for range 150 {
			i := r.IntN(len(machines))
			m, x := machines[i], models[i]
			in := anyInput(r, x.state, mine)
			met[[2]int{m.State(), in.Kind}]++
			words := x.do(in)
			wantDo(t, m, in, words, x.state)
			wantAsModel(t, m, x)
			if t.Failed() {
				t.Fatalf("of %s, %s", short(p), short(mine))
			}
			if r.IntN(40) == 0 && len(machines) < 4 {
				machines, models = append(machines, m.Copy()), append(models, x.copy())
			}
		}
	}
	for state := api.Idle; state <= api.Established; state++ {
		for kind := -1; kind <= api.InDelay+1; kind++ {
			if n := met[[2]int{state, kind}]; n < 20 {
				t.Errorf("state %d, input %d: met %d times only", state, kind, n)
			}
		}
	}
}

// Each run of five inputs, all of them, from the beginning on.
func TestP20_2ShortRuns(t *testing.T) {
	for _, passive := range []bool{false, true} {
		kinds := []api.Input{opens(an(2, 9, 30)), judged("Bad", api.Reset, 3, 1), judged("Stop", api.Fine, 6, 3)}
		for _, word := range inputWords[1:] {
			if word != "Open" {
				kinds = append(kinds, input(word))
			}
		}
		runs := 0
		var all func(m *fsm.Machine, x *model, left int)
		all = func(m *fsm.Machine, x *model, left int) {
			if runs++; left == 0 || t.Failed() {
				return
			}
			for _, in := range kinds {
				c, y := m.Copy(), x.copy()
				words := y.do(in)
				before := c.State()
				got := c.Do(in)
				if !sameActs(got, words) || c.State() != numbered(stateWords, y.state) {
					t.Fatalf("in %d, %s: %+v, state %d, want %s, %s", before, short(in), got, c.State(), words, y.state)
				}
				wantFollows(t, before, in, got, c)
				all(c, y, left-1)
			}
		}
		p, mine := peer(passive), an(1, 7, 90)
		all(made(t, p, mine), modelNew(p, mine), 4)
		if runs < 50000 {
			t.Errorf("%d runs only", runs)
		}
	}
}

func sameActs(l []api.Act, words string) bool {
	want := acts(words)
	if len(l) != len(want) {
		return false
	}
	for i := range l {
		if l[i] != want[i] {
			return false
		}
	}
	return true
}

// What follows of whole runs: ups and downs by turns, and a session just from OpenConfirm on.
func TestP20_3LongRuns(t *testing.T) {
	r := rand.New(rand.NewPCG(20, 3))
	ups, downs := 0, 0
	for range 100 {
		p, mine := anyPeer(r)
		m, up := made(t, p, mine), false
		for range 400 {
			before := m.State()
			in := anyInput(r, stateWords[before], mine)
			l := m.Do(in)
			wantFollows(t, before, in, l, m)
			for _, a := range l {
				switch a.Kind {
				case api.ActUp:
					if up {
						t.Fatal("up, and up again")
					}
					up, ups = true, ups+1
				case api.ActDown:
					if !up {
						t.Fatal("down, and never up")
					}
					up, downs = false, downs+1
				}
			}
			if up != (m.State() == api.Established) {
				t.Fatalf("up is %t in %d", up, m.State())
			}
		}
	}
	if ups < 1000 || downs < 1000 {
		t.Errorf("%d ups and %d downs only", ups, downs)
	}
}

// Behind InStop a machine is Idle, and stays there till InStart, whatever comes; but for a timer that is cancelled nothing is done then.
func TestP20_4BehindStop(t *testing.T) {
	r := rand.New(rand.NewPCG(20, 4))
	from := map[int]int{}
	for range 3000 {
		p, mine := anyPeer(r)
		m := made(t, p, mine)
		for range r.IntN(12) {
			m.Do(anyInput(r, stateWords[m.State()], mine))
		}
		from[m.State()]++
		stop := anyInput(r, "Idle", mine)
		stop.Kind = api.InStop
		for _, a := range m.Do(stop) {
			if a.Kind == api.ActArm || a.Kind == api.ActConnect {
				t.Fatalf("behind a stop: %+v", a)
			}
		}
		for range 30 {
			in := anyInput(r, "Established", mine)
			if r.IntN(3) == 0 {
				in.Kind = api.InRetry
			}
			if in.Kind == api.InStart {
				continue
			}
			l := m.Do(in)
			quiet := len(l) == 0 || in.Kind == api.InStop && sameActs(l, "cancel retry")
			if m.State() != api.Idle || !quiet {
				t.Fatalf("stopped, and then %s: %d, %+v", short(in), m.State(), l)
			}
		}
		if m.Do(input("Start")); m.State() == api.Idle {
			t.Fatal("started again, and Idle")
		}
	}
	for state := api.Idle; state <= api.Established; state++ {
		if from[state] < 50 {
			t.Errorf("stopped in %d %d times only", state, from[state])
		}
	}
}

// A note goes out only of OpenSent and above, and closes the connection; a connection that was closed is not closed again.
func TestP20_4Notes(t *testing.T) {
	r := rand.New(rand.NewPCG(20, 44))
	notes := map[int]int{}
	for range 200 {
		p, mine := anyPeer(r)
		m := made(t, p, mine)
		for range 300 {
			before := m.State()
			in := anyInput(r, stateWords[before], mine)
			l := m.Do(in)
			for i, a := range l {
				if a.Kind != api.ActNote {
					continue
				}
				notes[before]++
				closes := i == 0 && len(l) > 1 && l[1] == api.Act{Kind: api.ActClose}
				if before < api.OpenSent || !closes || a.Note.Code == 0 || a.Note.Data != "" || m.State() != api.Idle {
					t.Fatalf("in %d, %s: %+v", before, short(in), l)
				}
			}
			if in.Kind == api.InClosed {
				for _, a := range l {
					if a.Kind == api.ActClose || a.Kind == api.ActNote {
						t.Fatalf("in %d a connection that was closed: %+v", before, l)
					}
				}
			}
		}
	}
	for state := api.OpenSent; state <= api.Established; state++ {
		if notes[state] < 100 {
			t.Errorf("%d notes only in %d", notes[state], state)
		}
	}
}
