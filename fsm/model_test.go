package fsm_test

import (
	"fmt"
	"slices"

	"herald/api"
	"herald/open"
)

// model is a machine as the document tells it, with states as words, which answers what is done as words.
type model struct {
	peer    api.Peer
	mine    api.Open
	state   string
	wanted  bool
	session *api.Session
	theirs  *api.Open
}

func modelNew(p api.Peer, mine api.Open) *model {
	return &model{peer: p, mine: clone(mine), state: "Idle"}
}

func (m *model) copy() *model {
	c := *m
	return &c
}

func (m *model) arm(timer string, ticks int) string { return fmt.Sprintf("arm %s %d", timer, ticks) }

func (m *model) begins() string {
	if m.peer.Passive {
		m.state = "Active"
		return ""
	}
	m.state = "Connect"
	return list("connect", m.arm("retry", m.peer.Retry))
}

func (m *model) ends(note string, closed bool) string {
	l := []string{note}
	if !closed {
		l = append(l, "close")
	}
	l = append(l, "cancel hold", "cancel send")
	if m.state == "Established" {
		l = append(l, "down")
	}
	if m.wanted {
		l = append(l, m.arm("retry", m.peer.Retry))
	}
	m.state, m.session, m.theirs = "Idle", nil, nil
	return list(l...)
}

// note is the word of a note; of the code 0 there is none.
func note(code, sub uint8) string {
	if code == 0 {
		return ""
	}
	return fmt.Sprintf("note %d %d", code, sub)
}

func (m *model) hold() string {
	if m.session.Hold == 0 {
		return ""
	}
	return m.arm("hold", m.session.Hold)
}

func (m *model) send() string {
	if m.session.Hold == 0 {
		return ""
	}
	third := m.session.Hold / 3
	if third < 1 {
		third = 1
	}
	return m.arm("send", third)
}

// do asks ahead of the states what holds in several of them, then state by state.
func (m *model) do(in api.Input) string {
	kind := ""
	if in.Kind > 0 && in.Kind < len(inputWords) {
		kind = inputWords[in.Kind]
	}
	if kind == "Stop" {
		m.wanted = false
	}
	if slices.Contains([]string{"OpenSent", "OpenConfirm", "Established"}, m.state) {
		return m.doOpened(kind, in)
	}
	switch {
	case m.state == "Idle" && kind == "Stop":
		return "cancel retry"
	case m.state == "Idle" && kind == "Start":
		m.wanted = true
		return m.begins()
	case m.state == "Idle" && kind == "Retry" && m.wanted:
		return m.begins()
	case m.state == "Idle":
		return ""
	case kind == "Connected":
		m.state = "OpenSent"
		return "cancel retry, open, arm hold 240"
	case kind == "Stop":
		m.state = "Idle"
		return "cancel retry, close"
	case kind == "Retry" && !m.peer.Passive:
		m.state = "Connect"
		return list("connect", m.arm("retry", m.peer.Retry))
	case m.state == "Connect" && (kind == "Refused" || kind == "Closed"):
		m.state = "Active"
		return m.arm("retry", m.peer.Retry)
	}
	return ""
}

func (m *model) doOpened(kind string, in api.Input) string {
	switch kind {
	case "Hold":
		return m.ends("note 4 0", false)
	case "Note":
		return m.ends("", false)
	case "Stop":
		if in.Verdict.Code > 0 {
			return m.ends(note(in.Verdict.Code, in.Verdict.Sub), false)
		}
		return m.ends("note 6 2", false)
	case "Bad":
		if in.Verdict.Action == api.Reset {
			return m.ends(note(in.Verdict.Code, in.Verdict.Sub), false)
		}
		return m.doOpened("Update", in)
	case "Closed":
		if m.state == "OpenSent" {
			m.state = "Active"
			return list("cancel hold", m.arm("retry", m.peer.Retry))
		}
		return m.ends("", true)
	}
	switch m.state + " " + kind {
	case "OpenSent Open":
		return m.judge(in.Open)
	case "OpenSent Keep", "OpenSent Update":
		return m.ends("note 5 1", false)
	case "OpenConfirm Keep":
		m.state = "Established"
		return list(m.hold(), "up")
	case "OpenConfirm Open", "OpenConfirm Update":
		return m.ends("note 5 2", false)
	case "Established Keep", "Established Update":
		return m.hold()
	case "Established Open":
		return m.ends("note 5 3", false)
	case "OpenConfirm Send", "Established Send":
		if m.session.Hold > 0 {
			return list("keep", m.send())
		}
	}
	return ""
}

func (m *model) judge(o api.Open) string {
	if v := open.Accept(o, m.peer.AS, m.mine.Id); v.Action == api.Reset {
		return m.ends(note(v.Code, v.Sub), false)
	}
	s, err := open.Agree(m.mine, o)
	if err != api.OK {
		return m.ends("note 2 0", false)
	}
	if len(s.Fams) == 0 {
		return m.ends("note 2 7", false)
	}
	kept := clone(o)
	m.state, m.session, m.theirs = "OpenConfirm", &s, &kept
	if s.Hold == 0 {
		return "keep, cancel hold"
	}
	return list("keep", m.hold(), m.send())
}
