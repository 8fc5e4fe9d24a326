package polvm

import (
	"herald/api"
	"herald/attr"
	"herald/polc"
	"herald/prim"
)

// load answers a program's sets by their names, if it may be, and has all sets that it asks.
func load(p api.Program) (shelf, api.Errno) {
	known, may := shelve(p.Sets)
	if !may || !mayInstructions(p.Ins) {
		return nil, api.ErrArg
	}
	for _, ins := range p.Ins {
		// What an instruction does not have is zero, and asks nothing.
		if !known.answersCond(ins.Cond) || !known.answersAction(ins.Act) {
			return nil, api.ErrName
		}
	}
	return known, api.OK
}

// mayInstructions tells whether a program may have them, whatever sets there are.
func mayInstructions(l []api.Ins) bool {
	for at, ins := range l {
		if !mayInstruction(ins, at, len(l)-1) {
			return false
		}
	}
	return len(l) > 0
}

// mayInstruction tells whether a program may have the instruction at that place.
func mayInstruction(ins api.Ins, at, last int) bool {
	switch ins.Kind {
	case api.InsMatch:
		return ins == api.Ins{Kind: ins.Kind, Cond: ins.Cond, To: ins.To} && mayCond(ins.Cond) && ins.To > at && ins.To <= last
	case api.InsAct:
		return ins == api.Ins{Kind: ins.Kind, Act: ins.Act} && mayAction(ins.Act) && at < last
	case api.InsEnd:
		return ins == api.Ins{Kind: ins.Kind, N: ins.N} && (ins.N == 0 || ins.N == 1) && at == last
	}
	return false
}

// mayRoute tells whether a route may be.
func mayRoute(r api.Route) bool {
	return prim.Check(r.Prefix) == api.OK && attr.Check(r.Attrs) == api.OK && (r.Peer == "" || isName(r.Peer))
}

// isName tells whether the text is a name.
func isName(s string) bool {
	// A neighbour may be asked for just by a name.
	return mayCond(api.Cond{Kind: api.IfPeer, Name: s})
}

// mayCond tells whether the condition may be.
func mayCond(c api.Cond) bool {
	return mayTerm(api.Term{Conds: []api.Cond{c}, Actions: []api.Action{{Kind: api.DoAccept}}})
}

// mayAction tells whether the action may be.
func mayAction(a api.Action) bool {
	return mayTerm(api.Term{Actions: []api.Action{a}})
}

// mayTerm tells whether the term may be.
func mayTerm(t api.Term) bool {
	// It has a text just if it may be.
	_, err := polc.TermText(t)
	return err == api.OK
}
