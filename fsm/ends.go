package fsm

import (
	"herald/api"
	"herald/msg"
)

// The codes of the notes by which a machine ends of itself.
const (
	badOpen     = 2
	holdExpired = 4
	wrongState  = 5 // its subcode tells what came in which state
	ceased      = 6
)

const (
	noFamily = 7 // a subcode of badOpen
	shutDown = 2 // one of ceased
)

// ends makes what ends with a note.
func ends(code, sub uint8) deed {
	return func(m *Machine, _ api.Input, put func(...api.Act)) {
		m.end(noteOf(code, sub), false, put)
	}
}

func endsSilently(m *Machine, _ api.Input, put func(...api.Act)) { m.end(api.Note{}, false, put) }

func endsClosed(m *Machine, _ api.Input, put func(...api.Act)) { m.end(api.Note{}, true, put) }

func endsAsJudged(m *Machine, in api.Input, put func(...api.Act)) {
	note, _ := msg.Told(in.Verdict)
	m.end(note, false, put)
}

func stop(m *Machine, in api.Input, put func(...api.Act)) {
	note := noteOf(in.Verdict.Code, in.Verdict.Sub)
	if note.Code == 0 {
		note = noteOf(ceased, shutDown)
	}
	m.end(note, false, put)
}

// end goes back to Idle: with the note, unless its code is 0; closed tells that there is no connection left to close.
func (m *Machine) end(note api.Note, closed bool, put func(...api.Act)) {
	if note.Code > 0 {
		put(api.Act{Kind: api.ActNote, Note: note})
	}
	if !closed {
		put(does(api.ActClose))
	}
	put(cancel(api.TimeHold), cancel(api.TimeSend))
	if m.state == api.Established {
		put(does(api.ActDown))
	}
	if m.wanted {
		put(arm(api.TimeRetry, m.retry))
	}
	m.state, m.session, m.theirs = api.Idle, api.Session{}, api.Open{}
}
