package polc

import (
	"slices"
	"strconv"
	"strings"

	"herald/api"
	"herald/comm"
	"herald/prim"
)

// wrong is what reading a text is given up with.
type wrong struct{ code api.Errno }

// end is told behind the last word of a text: no word has a blank in it.
const end = " "

// Term reads a term from its text.
func Term(s string) (term api.Term, err error) {
	defer func() {
		if given := recover(); given != nil {
			// Of another type it would be a fault of the program, which must not pass for one of the text.
			err = &api.Fault{Code: given.(wrong).code}
		}
	}()
	return readTerm(words(s)), nil
}

// words answers a closure that tells the words of a text one by one, the empty ones between two blanks too, and then end.
func words(s string) func() string {
	left := true
	return func() string {
		if !left {
			return end
		}
		var word string
		word, s, left = strings.Cut(s, " ")
		return word
	}
}

// need gives up, unless that holds.
func need(holds bool) {
	if !holds {
		panic(wrong{api.ErrLine})
	}
}

func readTerm(next func() string) api.Term {
	var t api.Term
	word := next()
	if word == wordIf {
		t.Conds, word = readList(next, readCond)
	}
	need(word == wordThen)
	t.Actions, word = readList(next, readAction)
	need(word == end && mayTerm(t))
	return t
}

// readList reads what stands with the word and between two, and answers the word behind the last one, too.
func readList[T any](next func() string, read func(next func() string) T) ([]T, string) {
	var l []T
	for {
		// Given up at once where there are too many: what stands behind them may be long, and counts for nothing.
		need(len(l) < api.MaxItems)
		l = append(l, read(next))
		if word := next(); word != wordAnd {
			return l, word
		}
	}
}

// readCond reads a condition; whether it may be is asked when all of the term stands.
func readCond(next func() string) api.Cond {
	var c api.Cond
	word := next()
	if word == wordNot {
		c.Not, word = true, next()
	}
	c.Kind = place(condWords(), word)
	switch c.Kind {
	case api.IfOrigin:
		c.N = place(originWords(), next())
	case api.IfLength:
		c.N = int(number(next()))
	case api.IfFam:
		c.N = place(famWords(), next())
	default:
		c.Name = next()
	}
	return c
}

// readAction reads an action; whether it may be is asked when all of the term stands.
func readAction(next func() string) api.Action {
	a := api.Action{Kind: place(actionWords(), next())}
	switch a.Kind {
	case api.DoPref, api.DoMed, api.DoPrepend:
		a.N = number(next())
	case api.DoAdd:
		a.N = taken(comm.Parse(next()))
	case api.DoDel:
		a.Name = next()
	case api.DoNext:
		a.Addr = taken(prim.Addr(next()))
	case api.DoOrigin:
		a.N = uint32(place(originWords(), next()))
	}
	return a
}

// place is where the word stands among those of a table.
func place(table []string, word string) int {
	at := slices.Index(table, word)
	// Where a table begins behind 0, the empty word stands at 0.
	need(at >= 0 && word != "")
	return at
}

// number reads a number in the one form that it has: noughts ahead are written otherwise.
func number(word string) uint32 {
	n, err := strconv.ParseUint(word, 10, 32)
	need(err == nil && digits(uint32(n)) == word)
	return uint32(n)
}

// taken is what a layer below has read, if it took the word.
func taken[T any](x T, err api.Errno) T {
	need(err == api.OK)
	return x
}
