package polc

import (
	"slices"

	"herald/api"
	"herald/prim"
	"herald/sets"
)

// Numbers up to which the document lets conditions and actions go.
const (
	maxLength  = 65535
	maxPrepend = 8
)

// mayPolicy tells whether the policy may be, whatever sets there are.
func mayPolicy(p api.Policy) bool {
	return isName(p.Name) && len(p.Terms) <= api.MaxItems && all(p.Terms, mayTerm)
}

// mayTerm tells whether a policy may have the term.
func mayTerm(t api.Term) bool {
	last := len(t.Actions) - 1
	if len(t.Conds) > api.MaxItems || last < 0 || last >= api.MaxItems {
		return false
	}
	return all(t.Conds, mayCond) && all(t.Actions, mayAction) && all(t.Actions[:last], goesOn)
}

// mayCond tells whether a term may have the condition.
func mayCond(c api.Cond) bool {
	switch c.Kind {
	case api.IfPrefix, api.IfComm, api.IfPath, api.IfPeer:
		return isName(c.Name) && c.N == 0
	case api.IfOrigin:
		return c.Name == "" && c.N >= api.Igp && c.N <= api.Incomplete
	case api.IfLength:
		return c.Name == "" && c.N >= 0 && c.N <= maxLength
	case api.IfFam:
		return c.Name == "" && prim.Size(c.N) > 0
	}
	return false
}

// mayAction tells whether a term may have the action.
func mayAction(a api.Action) bool {
	switch a.Kind {
	case api.DoAccept, api.DoReject, api.DoNoMed:
		return a == api.Action{Kind: a.Kind}
	case api.DoPref, api.DoMed, api.DoAdd:
		return a == api.Action{Kind: a.Kind, N: a.N}
	case api.DoDel:
		return a == api.Action{Kind: a.Kind, Name: a.Name} && isName(a.Name)
	case api.DoPrepend:
		return a == api.Action{Kind: a.Kind, N: a.N} && a.N >= 1 && a.N <= maxPrepend
	case api.DoNext:
		return a == api.Action{Kind: a.Kind, Addr: a.Addr} && isAddr(a.Addr)
	case api.DoOrigin:
		return a == api.Action{Kind: a.Kind, N: a.N} && a.N <= api.Incomplete
	}
	return false
}

// goesOn tells whether another action may stand behind this one.
func goesOn(a api.Action) bool { return a.Kind != api.DoAccept && a.Kind != api.DoReject }

// isName tells whether the text is a name.
func isName(s string) bool {
	// A set that holds nothing may be just if its name is one.
	return sets.Check(api.Set{Name: s, Kind: api.SetComm}) == api.OK
}

// isAddr tells whether the bytes are those of an address.
func isAddr(b string) bool {
	_, err := prim.AddrText(b)
	return err == api.OK
}

// all tells whether each one of a list may be.
func all[T any](l []T, may func(T) bool) bool {
	return !slices.ContainsFunc(l, func(x T) bool { return !may(x) })
}
