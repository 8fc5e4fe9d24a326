package sets

import (
	"strconv"
	"strings"

	"herald/api"
)

// The texts of what is no number: of a pattern without atoms, and of the two kinds of atoms without an AS.
const (
	noAtoms  = "-"
	anyMark  = "."
	manyMark = "*"
)

// Match tells whether a pattern matches a list of ASs; false, if it is none that may be.
func Match(pattern []api.Atom, l []uint32) bool {
	return mayPattern(pattern) && matches(pattern, l)
}

// matches is Match of a pattern that may be.
func matches(pattern []api.Atom, l []uint32) bool {
	// At each AtomMany the first place from which the rest of the pattern is known not to match. Nor does it from a place behind that one: the AtomMany could have gone on to there. So no place is tried twice, however many of them there are.
	failed := map[int]int{}
	var from func(atom, place int) bool
	from = func(atom, place int) bool {
		if atom == len(pattern) {
			return place == len(l)
		}
		if pattern[atom].Kind != api.AtomMany {
			return place < len(l) && isOne(pattern[atom], l[place]) && from(atom+1, place+1)
		}
		end, known := failed[atom]
		if !known {
			end = len(l) + 1
		}
		for next := place; next < end; next++ {
			if from(atom+1, next) {
				return true
			}
		}
		failed[atom] = min(place, end)
		return false
	}
	return from(0, 0)
}

// isOne tells whether an atom that stands for one AS stands for this one.
func isOne(atom api.Atom, as uint32) bool {
	return atom.Kind == api.AtomAny || atom.AS == as
}

// mayPattern tells whether there is such a pattern.
func mayPattern(pattern []api.Atom) bool {
	return len(pattern) <= api.MaxItems && all(pattern, mayAtom)
}

// mayAtom tells whether a pattern may have the atom.
func mayAtom(atom api.Atom) bool {
	switch atom.Kind {
	case api.AtomAS:
		return atom.AS > 0
	case api.AtomAny, api.AtomMany:
		return atom.AS == 0
	}
	return false
}

// Text writes a pattern's text.
func Text(pattern []api.Atom) (string, api.Errno) {
	if !mayPattern(pattern) {
		return "", api.ErrArg
	}
	if len(pattern) == 0 {
		return noAtoms, api.OK
	}
	words := make([]string, len(pattern))
	for i, atom := range pattern {
		words[i] = atomText(atom)
	}
	return strings.Join(words, " "), api.OK
}

// atomText writes an atom that may be.
func atomText(atom api.Atom) string {
	switch atom.Kind {
	case api.AtomAny:
		return anyMark
	case api.AtomMany:
		return manyMark
	}
	return strconv.FormatUint(uint64(atom.AS), 10)
}

// Parse reads a pattern from its text.
func Parse(s string) ([]api.Atom, api.Errno) {
	if s == noAtoms {
		return nil, api.OK
	}
	var pattern []api.Atom
	for more := true; more; {
		var word string
		word, s, more = strings.Cut(s, " ")
		atom, ok := parseAtom(word)
		// Given up at once where there are too many: what stands behind them may be long, and counts for nothing.
		if !ok || len(pattern) == api.MaxItems {
			return nil, api.ErrForm
		}
		pattern = append(pattern, atom)
	}
	return pattern, api.OK
}

// parseAtom reads one atom's text.
func parseAtom(word string) (api.Atom, bool) {
	switch word {
	case anyMark:
		return api.Atom{Kind: api.AtomAny}, true
	case manyMark:
		return api.Atom{Kind: api.AtomMany}, true
	}
	v, err := strconv.ParseUint(word, 10, 32)
	atom := api.Atom{Kind: api.AtomAS, AS: uint32(v)}
	// Each atom has one text: a number with noughts ahead is written otherwise.
	return atom, err == nil && mayAtom(atom) && atomText(atom) == word
}
