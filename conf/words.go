package conf

import (
	"math"
	"slices"
	"strconv"
	"strings"

	"herald/api"
	"herald/comm"
	"herald/polc"
	"herald/prim"
	"herald/sets"
)

// blank parts the words of a line, colon the two numbers of a route target.
const (
	blank = " "
	colon = ":"
)

// wrong is what reading a line is given up with.
type wrong struct{}

// need gives up, unless that holds.
func need(holds bool) {
	if !holds {
		panic(wrong{})
	}
}

// words takes those of a line, one behind the other. What is left of it has a blank ahead of each word, of the first one, too: so an empty one at the end is not the same as none.
type words struct{ left string }

// wordsOf lays a copy of the line: names that are kept of it must not keep the whole text.
func wordsOf(line string) *words { return &words{left: blank + line} }

// look is the next word, which is not taken by that; "", if it is empty, or there is none.
func (w *words) look() string {
	word, _, _ := strings.Cut(strings.TrimPrefix(w.left, blank), blank)
	return word
}

// next takes a word, whichever it is.
func (w *words) next() string {
	word := w.look()
	need(w.has(word))
	return word
}

// has takes the next word, if it is that one.
func (w *words) has(word string) bool {
	if word == "" || w.look() != word {
		return false
	}
	w.left = w.left[len(blank)+len(word):]
	return true
}

// rest takes all that is left.
func (w *words) rest() string {
	rest := strings.TrimPrefix(w.left, blank)
	w.left = ""
	return rest
}

// end gives up, if anything is left.
func (w *words) end() { need(w.left == "") }

func (w *words) number(most uint64) uint64 { return number(w.next(), most) }

func (w *words) number32() uint32 { return uint32(w.number(math.MaxUint32)) }

// number reads a number in the one form that it has: noughts ahead are written otherwise.
func number(word string, most uint64) uint64 {
	n, err := strconv.ParseUint(word, 10, 64)
	need(err == nil && n <= most && digits(n) == word)
	return n
}

func (w *words) addr() string { return taken(prim.Addr(w.next())) }

// ownAddr takes an address that is as long as the daemon's.
func (w *words) ownAddr() string {
	addr := w.addr()
	need(len(addr) == addrSize)
	return addr
}

func (w *words) prefix() api.Prefix {
	text := w.next() + blank + w.next()
	p, err := prim.Parse(text)
	if err != api.OK {
		// One with a distinguisher has a word more.
		p, err = prim.Parse(text + blank + w.next())
	}
	return taken(p, err)
}

// fam takes the next word, if it is a family's name; 0, if it is none.
func (w *words) fam() int {
	for fam, name := range famNames() {
		if w.has(name) {
			return fam
		}
	}
	return 0
}

// target takes a route target.
func (w *words) target() uint64 {
	as, n, is := strings.Cut(w.next(), colon)
	need(is)
	return comm.Target(uint16(number(as, math.MaxUint16)), uint32(number(n, math.MaxUint32)))
}

func (w *words) comm() uint32 { return taken(comm.Parse(w.next())) }

func (w *words) pattern() []api.Atom { return taken(sets.Parse(w.rest())) }

func (w *words) term() api.Term {
	t, err := polc.Term(w.rest())
	need(err == nil)
	return t
}

// place takes a word of a table, and answers where it stands there.
func (w *words) place(table []string) int {
	at := slices.Index(table, w.next())
	need(at >= 0)
	return at
}

// taken is what a layer below has read, if it took the word.
func taken[T any](x T, err api.Errno) T {
	need(err == api.OK)
	return x
}
