package polc

import (
	"strconv"
	"strings"

	"herald/api"
	"herald/comm"
	"herald/prim"
)

// The words about conditions and actions.
const (
	wordIf   = "if"
	wordNot  = "not"
	wordAnd  = "and"
	wordThen = "then"
)

// condWords stand at the kinds of conditions that begin with them.
func condWords() []string {
	return []string{
		api.IfPrefix: "prefix",
		api.IfComm:   "comm",
		api.IfPath:   "path",
		api.IfPeer:   "peer",
		api.IfOrigin: "origin",
		api.IfLength: "length",
		api.IfFam:    "fam",
	}
}

// actionWords stand at the kinds of actions that begin with them.
func actionWords() []string {
	return []string{
		api.DoAccept:  "accept",
		api.DoReject:  "reject",
		api.DoPref:    "pref",
		api.DoMed:     "med",
		api.DoNoMed:   "no-med",
		api.DoAdd:     "add",
		api.DoDel:     "del",
		api.DoPrepend: "prepend",
		api.DoNext:    "next",
		api.DoOrigin:  "origin",
	}
}

// originWords stand at the origins' numbers.
func originWords() []string {
	return []string{api.Igp: "igp", api.Egp: "egp", api.Incomplete: "incomplete"}
}

// famWords stand at the families' numbers.
func famWords() []string {
	return []string{api.V4: "v4", api.V6: "v6", api.L4: "l4", api.Vpn4: "vpn4", api.Vpn6: "vpn6"}
}

// TermText writes a term's text.
func TermText(t api.Term) (string, api.Errno) {
	if !mayTerm(t) {
		return "", api.ErrArg
	}
	text := wordThen + " " + joined(t.Actions, actionText)
	if len(t.Conds) > 0 {
		text = wordIf + " " + joined(t.Conds, condText) + " " + text
	}
	return text, api.OK
}

// joined writes what stands with the word and between two.
func joined[T any](l []T, text func(T) string) string {
	texts := make([]string, len(l))
	for i, x := range l {
		texts[i] = text(x)
	}
	return strings.Join(texts, " "+wordAnd+" ")
}

// condText writes a condition that may be.
func condText(c api.Cond) string {
	text := condWords()[c.Kind] + " " + condValue(c)
	if c.Not {
		text = wordNot + " " + text
	}
	return text
}

// condValue writes the field that a condition's row names.
func condValue(c api.Cond) string {
	switch c.Kind {
	case api.IfOrigin:
		return originWords()[c.N]
	case api.IfLength:
		return strconv.Itoa(c.N)
	case api.IfFam:
		return famWords()[c.N]
	}
	return c.Name
}

// actionText writes an action that may be.
func actionText(a api.Action) string {
	text := actionWords()[a.Kind]
	if value := actionValue(a); value != "" {
		text += " " + value
	}
	return text
}

// actionValue writes the field that an action's row names; nothing, if it names none.
func actionValue(a api.Action) string {
	switch a.Kind {
	case api.DoPref, api.DoMed, api.DoPrepend:
		return digits(a.N)
	case api.DoAdd:
		return comm.Text(a.N)
	case api.DoNext:
		text, _ := prim.AddrText(a.Addr)
		return text
	case api.DoOrigin:
		return originWords()[a.N]
	}
	return a.Name
}

// digits writes a number.
func digits(n uint32) string { return strconv.FormatUint(uint64(n), 10) }
