package fsm

import (
	"herald/api"
	"herald/msg"
	"herald/open"
)

// place is where what is done stands: a state, and what comes in it.
type place struct{ state, kind int }

// deed does at a machine what a row says; what is told of it is put.
type deed func(m *Machine, in api.Input, put func(...api.Act))

// rows makes what is done by states and inputs; what stands in no row does nothing.
func rows() map[place]deed {
	return map[place]deed{
		{api.Idle, api.InStart}: start,
		{api.Idle, api.InRetry}: startAgain,
		{api.Idle, api.InStop}:  stopIdle,

		{api.Connect, api.InConnected}: greet,
		{api.Connect, api.InRefused}:   await,
		{api.Connect, api.InClosed}:    await,
		{api.Connect, api.InRetry}:     tryAgain,
		{api.Connect, api.InStop}:      stopTrying,

		{api.Active, api.InConnected}: greet,
		{api.Active, api.InRetry}:     tryAgain,
		{api.Active, api.InStop}:      stopTrying,

		{api.OpenSent, api.InOpen}:   agree,
		{api.OpenSent, api.InKeep}:   ends(wrongState, 1),
		{api.OpenSent, api.InUpdate}: ends(wrongState, 1),
		{api.OpenSent, api.InClosed}: awaitAnother,
		{api.OpenSent, api.InHold}:   ends(holdExpired, 0),
		{api.OpenSent, api.InNote}:   endsSilently,
		{api.OpenSent, api.InBad}:    endsAsJudged,
		{api.OpenSent, api.InStop}:   stop,

		{api.OpenConfirm, api.InKeep}:   establish,
		{api.OpenConfirm, api.InOpen}:   ends(wrongState, 2),
		{api.OpenConfirm, api.InUpdate}: ends(wrongState, 2),
		{api.OpenConfirm, api.InSend}:   sendKeep,
		{api.OpenConfirm, api.InClosed}: endsClosed,
		{api.OpenConfirm, api.InHold}:   ends(holdExpired, 0),
		{api.OpenConfirm, api.InNote}:   endsSilently,
		{api.OpenConfirm, api.InBad}:    endsAsJudged,
		{api.OpenConfirm, api.InStop}:   stop,

		{api.Established, api.InKeep}:   hear,
		{api.Established, api.InUpdate}: hear,
		{api.Established, api.InOpen}:   ends(wrongState, 3),
		{api.Established, api.InSend}:   sendKeep,
		{api.Established, api.InClosed}: endsClosed,
		{api.Established, api.InHold}:   ends(holdExpired, 0),
		{api.Established, api.InNote}:   endsSilently,
		{api.Established, api.InBad}:    endsAsJudged,
		{api.Established, api.InStop}:   stop,
	}
}

// openHold is for how many ticks an open is waited for: nothing is agreed upon yet.
const openHold = 240

func start(m *Machine, _ api.Input, put func(...api.Act)) {
	m.wanted = true
	m.begin(put)
}

func startAgain(m *Machine, _ api.Input, put func(...api.Act)) {
	if m.wanted {
		m.begin(put)
	}
}

func (m *Machine) begin(put func(...api.Act)) {
	if m.passive {
		m.state = api.Active
		return
	}
	m.connect(put)
}

func (m *Machine) connect(put func(...api.Act)) {
	put(does(api.ActConnect), arm(api.TimeRetry, m.retry))
	m.state = api.Connect
}

func tryAgain(m *Machine, _ api.Input, put func(...api.Act)) {
	if !m.passive {
		m.connect(put)
	}
}

func stopIdle(m *Machine, _ api.Input, put func(...api.Act)) { put(cancel(api.TimeRetry)) }

func stopTrying(m *Machine, _ api.Input, put func(...api.Act)) {
	put(cancel(api.TimeRetry), does(api.ActClose))
	m.state = api.Idle
}

func await(m *Machine, _ api.Input, put func(...api.Act)) {
	put(arm(api.TimeRetry, m.retry))
	m.state = api.Active
}

// awaitAnother waits for another connection in place of the one that was closed.
func awaitAnother(m *Machine, in api.Input, put func(...api.Act)) {
	put(cancel(api.TimeHold))
	await(m, in, put)
}

func greet(m *Machine, _ api.Input, put func(...api.Act)) {
	put(cancel(api.TimeRetry), does(api.ActOpen), arm(api.TimeHold, openHold))
	m.state = api.OpenSent
}

// agree looks whether the other side's open will do.
func agree(m *Machine, in api.Input, put func(...api.Act)) {
	if note, wrong := msg.Told(open.Accept(in.Open, m.as, m.mine.Id)); wrong {
		m.end(note, false, put)
		return
	}
	s, err := open.Agree(m.mine, in.Open)
	switch {
	case err != api.OK:
		m.end(noteOf(badOpen, 0), false, put)
	case len(s.Fams) == 0:
		m.end(noteOf(badOpen, noFamily), false, put)
	default:
		m.confirm(s, in.Open, put)
	}
}

func (m *Machine) confirm(s api.Session, theirs api.Open, put func(...api.Act)) {
	m.state, m.session, m.theirs = api.OpenConfirm, s, ownOpen(theirs)
	put(does(api.ActKeep))
	if s.Hold == 0 {
		put(cancel(api.TimeHold))
		return
	}
	m.armHold(put)
	m.armSend(put)
}

// armHold begins to wait anew for whatever comes, if that was agreed upon.
func (m *Machine) armHold(put func(...api.Act)) {
	if m.session.Hold > 0 {
		put(arm(api.TimeHold, m.session.Hold))
	}
}

// armSend lets the next message go so early that two may be lost ahead of the end of what was agreed upon.
func (m *Machine) armSend(put func(...api.Act)) {
	put(arm(api.TimeSend, max(1, m.session.Hold/3)))
}

func establish(m *Machine, _ api.Input, put func(...api.Act)) {
	m.armHold(put)
	put(does(api.ActUp))
	m.state = api.Established
}

func hear(m *Machine, _ api.Input, put func(...api.Act)) { m.armHold(put) }

func sendKeep(m *Machine, _ api.Input, put func(...api.Act)) {
	if m.session.Hold > 0 {
		put(does(api.ActKeep))
		m.armSend(put)
	}
}
