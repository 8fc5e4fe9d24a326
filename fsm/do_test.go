package fsm_test

import (
	"fmt"
	"math"
	"reflect"
	"slices"
	"strings"
	"testing"

	"herald/api"
)

func TestP20_2Examples(t *testing.T) {
	up := []step{
		{input("Start"), "connect, arm retry 30", "Connect"},
		{input("Connected"), "cancel retry, open, arm hold 240", "OpenSent"},
	}
	m := made(t, peer(false), an(1, 7, 90))
	wantRun(t, m, up...)
	third, fifth := m.Copy(), m.Copy()
	wantRun(t, m,
		step{opens(an(2, 9, 30)), "keep, arm hold 30, arm send 10", "OpenConfirm"},
		step{input("Keep"), "arm hold 30, up", "Established"},
		step{input("Update"), "arm hold 30", "Established"},
		step{input("Send"), "keep, arm send 10", "Established"},
		step{input("Hold"), "note 4 0, close, cancel hold, cancel send, down, arm retry 30", "Idle"},
		step{input("Retry"), "connect, arm retry 30", "Connect"},
		step{input("Refused"), "arm retry 30", "Active"},
		step{input("Stop"), "cancel retry, close", "Idle"},
		step{input("Retry"), "", "Idle"})
	wantRun(t, third, step{opens(an(3, 9, 30)), "note 2 2, close, cancel hold, cancel send, arm retry 30", "Idle"})
	wantRun(t, fifth, step{input("Keep"), "note 5 1, close, cancel hold, cancel send, arm retry 30", "Idle"})
}

// table is the document's table for the examples' peer, written out row by row; AS and Hold are agreed upon.
func table() map[string]step {
	const end = "close, cancel hold, cancel send, arm retry 30"
	const down = "close, cancel hold, cancel send, down, arm retry 30"
	rows := map[string]step{
		"Idle Start": {words: "connect, arm retry 30", state: "Connect"},
		"Idle Stop":  {words: "cancel retry", state: "Idle"},

		"Connect Connected": {words: "cancel retry, open, arm hold 240", state: "OpenSent"},
		"Connect Refused":   {words: "arm retry 30", state: "Active"},
		"Connect Closed":    {words: "arm retry 30", state: "Active"},
		"Connect Retry":     {words: "connect, arm retry 30", state: "Connect"},
		"Connect Stop":      {words: "cancel retry, close", state: "Idle"},

		"Active Connected": {words: "cancel retry, open, arm hold 240", state: "OpenSent"},
		"Active Retry":     {words: "connect, arm retry 30", state: "Connect"},
		"Active Stop":      {words: "cancel retry, close", state: "Idle"},

		"OpenSent Open":   {words: "keep, arm hold 31, arm send 10", state: "OpenConfirm"},
		"OpenSent Keep":   {words: "note 5 1, " + end, state: "Idle"},
		"OpenSent Update": {words: "note 5 1, " + end, state: "Idle"},
		"OpenSent Bad":    {words: "note 5 1, " + end, state: "Idle"},
		"OpenSent Closed": {words: "cancel hold, arm retry 30", state: "Active"},
		"OpenSent Hold":   {words: "note 4 0, " + end, state: "Idle"},
		"OpenSent Note":   {words: end, state: "Idle"},
		"OpenSent Stop":   {words: "note 6 2, close, cancel hold, cancel send", state: "Idle"},

		"OpenConfirm Keep":   {words: "arm hold 31, up", state: "Established"},
		"OpenConfirm Open":   {words: "note 5 2, " + end, state: "Idle"},
		"OpenConfirm Update": {words: "note 5 2, " + end, state: "Idle"},
		"OpenConfirm Bad":    {words: "note 5 2, " + end, state: "Idle"},
		"OpenConfirm Send":   {words: "keep, arm send 10", state: "OpenConfirm"},
		"OpenConfirm Closed": {words: "cancel hold, cancel send, arm retry 30", state: "Idle"},
		"OpenConfirm Hold":   {words: "note 4 0, " + end, state: "Idle"},
		"OpenConfirm Note":   {words: end, state: "Idle"},
		"OpenConfirm Stop":   {words: "note 6 2, close, cancel hold, cancel send", state: "Idle"},

		"Established Keep":   {words: "arm hold 31", state: "Established"},
		"Established Update": {words: "arm hold 31", state: "Established"},
		"Established Bad":    {words: "arm hold 31", state: "Established"},
		"Established Open":   {words: "note 5 3, " + down, state: "Idle"},
		"Established Send":   {words: "keep, arm send 10", state: "Established"},
		"Established Closed": {words: "cancel hold, cancel send, down, arm retry 30", state: "Idle"},
		"Established Hold":   {words: "note 4 0, " + down, state: "Idle"},
		"Established Note":   {words: down, state: "Idle"},
		"Established Stop":   {words: "note 6 2, close, cancel hold, cancel send, down", state: "Idle"},
	}
	return rows
}

// Each kind of input, and each number that is none, in each state: what stands in no row does nothing.
func TestP20_2EachInputInEachState(t *testing.T) {
	rows, met := table(), 0
	for _, state := range stateWords[1:] {
		for _, kind := range kinds() {
			want := step{state: state}
			if kind > 0 && kind < len(inputWords) {
				if s, is := rows[state+" "+inputWords[kind]]; is {
					want, met = s, met+1
				}
			}
			// What does not count for the row is set in the second one.
			wantDo(t, at(t, state, false, 31), api.Input{Kind: kind, Open: an(2, 9, 31)}, want.words, want.state)
			if kind != api.InStop {
				wantDo(t, at(t, state, false, 31), api.Input{Kind: kind, Open: an(2, 9, 31), Verdict: api.Verdict{Action: api.Withdraw, Code: 3, Sub: 9}}, want.words, want.state)
			}
		}
	}
	if met != len(rows) {
		t.Errorf("%d of %d rows are met", met, len(rows))
	}
}

// What is done over and over where nothing is done changes nothing of what comes behind it.
func TestP20_2NothingDone(t *testing.T) {
	rows := table()
	for _, state := range stateWords[1:] {
		m := at(t, state, false, 31)
		for range 3 {
			for _, kind := range kinds() {
				if kind > 0 && kind < len(inputWords) {
					if _, is := rows[state+" "+inputWords[kind]]; is {
						continue
					}
				}
				wantDo(t, m, api.Input{Kind: kind, Open: an(2, 9, 31)}, "", state)
			}
		}
		for name, s := range rows {
			if word, is := strings.CutPrefix(name, state+" "); is {
				wantDo(t, m.Copy(), api.Input{Kind: numbered(inputWords, word), Open: an(2, 9, 31)}, s.words, s.state)
			}
		}
	}
}

func TestP20_2Passive(t *testing.T) {
	m := made(t, peer(true), an(1, 7, 90))
	wantRun(t, m,
		step{input("Retry"), "", "Idle"},
		step{input("Start"), "", "Active"},
		step{input("Retry"), "", "Active"},
		step{input("Refused"), "", "Active"},
		step{input("Closed"), "", "Active"},
		step{input("Start"), "", "Active"},
		step{input("Connected"), "cancel retry, open, arm hold 240", "OpenSent"},
		step{input("Closed"), "cancel hold, arm retry 30", "Active"},
		step{input("Retry"), "", "Active"},
		step{input("Connected"), "cancel retry, open, arm hold 240", "OpenSent"},
		step{input("Note"), "close, cancel hold, cancel send, arm retry 30", "Idle"},
		step{input("Retry"), "", "Active"},
		step{input("Stop"), "cancel retry, close", "Idle"},
		step{input("Retry"), "", "Idle"})
}

func TestP20_2NotPassive(t *testing.T) {
	m := made(t, peer(false), an(1, 7, 90))
	wantRun(t, m,
		step{input("Start"), "connect, arm retry 30", "Connect"},
		step{input("Retry"), "connect, arm retry 30", "Connect"},
		step{input("Closed"), "arm retry 30", "Active"},
		step{input("Retry"), "connect, arm retry 30", "Connect"},
		step{input("Refused"), "arm retry 30", "Active"},
		step{input("Connected"), "cancel retry, open, arm hold 240", "OpenSent"},
		step{input("Closed"), "cancel hold, arm retry 30", "Active"},
		step{input("Retry"), "connect, arm retry 30", "Connect"},
		step{input("Stop"), "cancel retry, close", "Idle"})
}

func TestP20_2Retry(t *testing.T) {
	for _, retry := range []int{1, 2, 30, 65535} {
		p := peer(false)
		p.Retry = retry
		m := made(t, p, an(1, 7, 90))
		arm := fmt.Sprintf("arm retry %d", retry)
		wantRun(t, m,
			step{input("Start"), "connect, " + arm, "Connect"},
			step{input("Retry"), "connect, " + arm, "Connect"},
			step{input("Refused"), arm, "Active"},
			step{input("Retry"), "connect, " + arm, "Connect"},
			step{input("Closed"), arm, "Active"},
			step{input("Connected"), "cancel retry, open, arm hold 240", "OpenSent"},
			step{input("Closed"), "cancel hold, " + arm, "Active"},
			step{input("Connected"), "cancel retry, open, arm hold 240", "OpenSent"},
			step{input("Hold"), "note 4 0, close, cancel hold, cancel send, " + arm, "Idle"},
			step{input("Retry"), "connect, " + arm, "Connect"})
	}
}

// Wanted is a machine from InStart till InStop: behind an end, too.
func TestP20_2Wanted(t *testing.T) {
	for _, passive := range []bool{false, true} {
		begins := step{input("Retry"), "connect, arm retry 30", "Connect"}
		if passive {
			begins = step{input("Retry"), "", "Active"}
		}
		wantRun(t, made(t, peer(passive), an(1, 7, 90)),
			step{input("Retry"), "", "Idle"},
			step{input("Stop"), "cancel retry", "Idle"},
			step{input("Retry"), "", "Idle"})
		for _, state := range []string{"OpenSent", "OpenConfirm", "Established"} {
			m := at(t, state, passive, 31)
			m.Do(input("Note"))
			started, stopped := m.Copy(), m.Copy()
			wantRun(t, m, begins)
			begun := begins
			begun.in = input("Start")
			wantRun(t, started, begun)
			wantRun(t, stopped,
				step{input("Stop"), "cancel retry", "Idle"},
				step{input("Retry"), "", "Idle"},
				step{input("Stop"), "cancel retry", "Idle"},
				begun)
			m.Do(input("Connected"))
			m.Do(input("Note"))
			wantRun(t, m, begins)
		}
		for _, state := range []string{"Connect", "Active", "OpenSent", "OpenConfirm", "Established"} {
			if passive && state == "Connect" {
				continue
			}
			m := at(t, state, passive, 31)
			m.Do(input("Stop"))
			wantRun(t, m, step{input("Retry"), "", "Idle"}, step{input("Note"), "", "Idle"}, step{input("Retry"), "", "Idle"})
		}
	}
}

func TestP20_2Stop(t *testing.T) {
	const tail = "close, cancel hold, cancel send"
	for _, action := range []int{api.Fine, api.Discard, api.Withdraw, api.Reset, -1, 9} {
		for _, code := range []uint8{0, 1, 2, 6, 255} {
			for _, sub := range []uint8{0, 2, 3, 255} {
				in := judged("Stop", action, code, sub)
				in.Open = all(2, 9, 3)
				words := note(code, sub)
				if code == 0 {
					words = "note 6 2"
				}
				for _, passive := range []bool{false, true} {
					wantDo(t, at(t, "Idle", passive, 31), in, "cancel retry", "Idle")
					if !passive {
						wantDo(t, at(t, "Connect", passive, 31), in, "cancel retry, close", "Idle")
					}
					wantDo(t, at(t, "Active", passive, 31), in, "cancel retry, close", "Idle")
					wantDo(t, at(t, "OpenSent", passive, 31), in, list(words, tail), "Idle")
					wantDo(t, at(t, "OpenConfirm", passive, 31), in, list(words, tail), "Idle")
					wantDo(t, at(t, "Established", passive, 0), in, list(words, tail, "down"), "Idle")
				}
			}
		}
	}
}

func TestP20_2Bad(t *testing.T) {
	const tail = "close, cancel hold, cancel send"
	for _, state := range stateWords[1:] {
		for _, action := range []int{api.Fine, api.Discard, api.Withdraw, api.Reset, -1, api.Reset + 1, math.MinInt, math.MaxInt} {
			for _, code := range []uint8{0, 1, 3, 255} {
				for _, sub := range []uint8{0, 1, 11, 255} {
					want := step{in: judged("Bad", action, code, sub), state: "Idle"}
					reset := action == api.Reset
					switch {
					case numbered(stateWords, state) < api.OpenSent:
						want.state = state
					case state == "OpenSent" && reset, state == "OpenConfirm" && reset:
						want.words = list(note(code, sub), tail, "arm retry 30")
					case reset:
						want.words = list(note(code, sub), tail, "down, arm retry 30")
					case state == "OpenSent":
						want.words = list("note 5 1", tail, "arm retry 30")
					case state == "OpenConfirm":
						want.words = list("note 5 2", tail, "arm retry 30")
					default:
						want.words, want.state = "arm hold 31", state
					}
					wantRun(t, at(t, state, false, 31), want)
				}
			}
		}
	}
	wantRun(t, at(t, "Established", false, 0), step{judged("Bad", api.Withdraw, 3, 1), "", "Established"})
}

// What is agreed upon of Hold, by both, is armed; of 0 nothing is.
func TestP20_2Hold(t *testing.T) {
	for _, mine := range []int{0, 3, 4, 5, 30, 90, 240, 65535} {
		for _, theirs := range []int{0, 3, 4, 5, 6, 8, 29, 31, 90, 241, 65534, 65535} {
			m := reach(t, made(t, peer(false), an(1, 7, mine)), "OpenSent", api.Open{})
			hold := min(mine, theirs)
			armed, sends, again := fmt.Sprintf("arm hold %d", hold), fmt.Sprintf("arm send %d", hold/3), fmt.Sprintf("keep, arm send %d", hold/3)
			first := list("keep", armed, sends)
			if hold == 0 {
				armed, sends, again = "", "", ""
				first = "keep, cancel hold"
			}
			wantRun(t, m,
				step{opens(an(2, 9, theirs)), first, "OpenConfirm"},
				step{input("Send"), again, "OpenConfirm"},
				step{input("Send"), again, "OpenConfirm"},
				step{input("Keep"), list(armed, "up"), "Established"},
				step{input("Keep"), armed, "Established"},
				step{input("Send"), again, "Established"},
				step{input("Update"), armed, "Established"},
				step{judged("Bad", api.Discard, 3, 1), armed, "Established"},
				step{input("Closed"), "cancel hold, cancel send, down, arm retry 30", "Idle"})
		}
	}
}

func TestP20_2Third(t *testing.T) {
	for hold, third := range map[int]int{3: 1, 4: 1, 5: 1, 6: 2, 7: 2, 8: 2, 9: 3, 29: 9, 30: 10, 31: 10, 32: 10, 33: 11, 65535: 21845, 65534: 21844} {
		m := reach(t, made(t, peer(true), an(1, 7, 65535)), "OpenSent", api.Open{})
		arm := fmt.Sprintf("arm send %d", third)
		wantRun(t, m,
			step{opens(an(2, 9, hold)), list("keep", fmt.Sprintf("arm hold %d", hold), arm), "OpenConfirm"},
			step{input("Send"), "keep, " + arm, "OpenConfirm"})
	}
}

const refused = "close, cancel hold, cancel send, arm retry 30"

// wantRefused looks at a machine of a peer and an own open that is sent an open that will not do.
func wantRefused(t *testing.T, p api.Peer, mine, theirs api.Open, words string) {
	t.Helper()
	p.Retry = 30
	m := reach(t, made(t, p, mine), "OpenSent", theirs)
	wantRun(t, m, step{opens(theirs), words + ", " + refused, "Idle"})
}

func TestP20_2OpenNotAccepted(t *testing.T) {
	for _, as := range []uint32{1, 3, 65535, 65536 + 2, math.MaxUint32} {
		theirs := an(as, 9, 30)
		theirs.Four = as > 65535
		wantRefused(t, api.Peer{AS: 2}, an(1, 7, 90), theirs, "note 2 2")
		// What is wrong with the AS goes ahead of all else.
		theirs.Id = 7
		wantRefused(t, api.Peer{AS: 2}, an(1, 7, 90), theirs, "note 2 2")
		theirs.Fams = []int{api.V6}
		wantRefused(t, api.Peer{AS: 2}, an(1, 7, 90), theirs, "note 2 2")
		theirs.Fams = nil
		wantRefused(t, api.Peer{AS: 2}, an(1, 7, 90), theirs, "note 2 2")
	}
	for _, as := range []uint32{0, 2} {
		own := an(2, 7, 30)
		wantRefused(t, api.Peer{AS: as}, an(1, 7, 90), own, "note 2 3")
		own.Fams = []int{api.V6}
		wantRefused(t, api.Peer{AS: as, Passive: true}, an(1, 7, 90), own, "note 2 3")
		own.Hold = 1
		wantRefused(t, api.Peer{AS: as}, an(1, 7, 90), own, "note 2 3")
	}
	wantRefused(t, api.Peer{AS: 2}, an(1, 7, 90), api.Open{}, "note 2 2")
}

// A peer of the AS 0 may have any one.
func TestP20_2OpenOfAnyAS(t *testing.T) {
	for _, as := range []uint32{1, 2, 65535, 65536, math.MaxUint32} {
		theirs := an(as, 9, 30)
		theirs.Four = true
		m := reach(t, made(t, api.Peer{Retry: 30}, an(1, 7, 90)), "OpenSent", theirs)
		wantRun(t, m, step{opens(theirs), "keep, arm hold 30, arm send 10", "OpenConfirm"})
		if o, is := m.Theirs(); !is || !same(o, theirs) {
			t.Errorf("Theirs: %+v, %t", o, is)
		}
	}
}

func TestP20_2OpenThatMayNotBe(t *testing.T) {
	for name, o := range mayNot() {
		p := api.Peer{AS: o.AS}
		t.Run(name, func(t *testing.T) {
			wantRefused(t, p, an(1, 7, 90), o, "note 2 0")
			o.Fams = []int{api.V6, api.V6}
			wantRefused(t, p, an(1, 7, 90), o, "note 2 0")
		})
	}
}

func TestP20_2OpenWithoutFamily(t *testing.T) {
	for _, fams := range [][2][]int{
		{{api.V4}, {api.V6}},
		{{api.V6}, {api.V4}},
		{{api.V4, api.L4, api.Vpn6}, {api.V6, api.Vpn4}},
	} {
		mine, theirs := an(1, 7, 90), an(2, 9, 0)
		mine.Fams, theirs.Fams = fams[0], fams[1]
		wantRefused(t, api.Peer{AS: 2}, mine, theirs, "note 2 7")
	}
	mine, theirs := all(1, 7, 90), an(2, 9, 30)
	theirs.Fams = []int{api.Vpn6}
	m := reach(t, made(t, peer(false), mine), "OpenSent", theirs)
	wantRun(t, m, step{opens(theirs), "keep, arm hold 30, arm send 10", "OpenConfirm"})
	if s, is := m.Session(); !is || !same(s, api.Session{Hold: 30, Fams: []int{api.Vpn6}}) {
		t.Errorf("Session: %+v, %t", s, is)
	}
}

// An open that was refused leaves nothing behind: the next one is judged as the first one would have been.
func TestP20_2OpenAgain(t *testing.T) {
	m := reach(t, made(t, peer(false), all(1, 7, 90)), "OpenSent", api.Open{})
	for _, o := range []api.Open{an(3, 9, 30), an(2, 7, 30), an(2, 9, 1)} {
		m.Do(opens(o))
		if _, is := m.Theirs(); is || m.State() != api.Idle {
			t.Fatalf("%s: %d, %t", short(o), m.State(), is)
		}
		m.Do(input("Retry"))
		m.Do(input("Connected"))
	}
	theirs := all(2, 9, 0)
	wantRun(t, m, step{opens(theirs), "keep, cancel hold", "OpenConfirm"})
	s, _ := m.Session()
	o, is := m.Theirs()
	want := api.Session{Fams: []int{1, 2, 3, 4, 5}, Four: true, Refresh: true, Send: []int{1, 3, 4, 5}, Take: []int{1, 3, 4, 5}, HasGR: true, Again: true, Time: 120, Kept: theirs.Kept}
	if !is || !same(o, theirs) || !same(s, want) {
		t.Errorf("Session, Theirs: %+v, %+v, %t", s, o, is)
	}
}

// An input's other fields count for nothing where the row does not name them.
func TestP20_2OtherFields(t *testing.T) {
	for name, s := range table() {
		state, word, _ := strings.Cut(name, " ")
		for _, v := range []api.Verdict{{}, {Action: api.Reset, Code: 3, Sub: 1}, {Action: -1, Code: 255, Sub: 255}} {
			for _, o := range []api.Open{{}, an(3, 7, 1), all(2, 9, 60)} {
				if word == "Open" {
					o = an(2, 9, 31)
				}
				if word == "Bad" || word == "Stop" {
					v = api.Verdict{}
				}
				wantDo(t, at(t, state, false, 31), api.Input{Kind: numbered(inputWords, word), Open: o, Verdict: v}, s.words, s.state)
			}
		}
	}
}

// What was answered stays as it was when the machine goes on; and the machine goes on as it would, whatever is done with what it answered.
func TestP20_2Answers(t *testing.T) {
	inputs := []api.Input{input("Start"), input("Refused"), input("Retry"), input("Connected"), opens(an(2, 9, 30)), input("Keep"), input("Send"), input("Update"), input("Hold")}
	m, spoiled := made(t, peer(false), an(1, 7, 90)), made(t, peer(false), an(1, 7, 90))
	var answers, were [][]api.Act
	for range 2 {
		for _, in := range inputs {
			l := m.Do(in)
			answers, were = append(answers, l), append(were, slices.Clone(l))
			s := spoiled.Do(in)
			if !slices.Equal(l, s) {
				t.Errorf("%s: %+v, and %+v of one whose answers were changed", short(in), l, s)
			}
			wantApart(t, "Do", l, s)
			spoil(reflect.ValueOf(s))
		}
	}
	for i, l := range answers {
		if !slices.Equal(l, were[i]) {
			t.Errorf("answer %d: %+v, it was %+v", i, l, were[i])
		}
		for _, o := range answers[:i] {
			wantApart(t, "Do", l, o)
		}
	}
}
