package prim

import (
	"strconv"
	"strings"

	"herald/api"
)

// style is how addresses of one size are written: so many numbers of a base, each of some bytes, a mark between.
type style struct {
	mark  string
	count int
	width int
	base  int
}

var styles = [...]style{
	{".", 4, 1, 10},
	{":", 8, 2, 16},
}

// Addr reads an address' text.
func Addr(s string) (string, api.Errno) {
	for _, y := range styles {
		if b, ok := y.read(s); ok {
			return b, api.OK
		}
	}
	return "", api.ErrForm
}

// AddrText writes an address of 4 or 16 bytes.
func AddrText(b string) (string, api.Errno) {
	for _, y := range styles {
		if len(b) == y.count*y.width {
			return y.write(b), api.OK
		}
	}
	return "", api.ErrArg
}

func (y style) read(s string) (string, bool) {
	// One word more than there may be is enough to tell that there are too many.
	words := strings.SplitN(s, y.mark, y.count+1)
	if len(words) != y.count {
		return "", false
	}
	var b []byte
	for _, w := range words {
		n, ok := readNumber(w, y.base, 8*y.width)
		if !ok {
			return "", false
		}
		for i := y.width - 1; i >= 0; i-- {
			b = append(b, byte(n>>(8*i)))
		}
	}
	return string(b), true
}

func (y style) write(b string) string {
	words := make([]string, y.count)
	for i := range words {
		n := uint64(0)
		for k := range y.width {
			n = n<<8 | uint64(b[i*y.width+k])
		}
		words[i] = strconv.FormatUint(n, y.base)
	}
	return strings.Join(words, y.mark)
}

// readNumber reads a number of at most so many bits, in just the form in which it is written.
func readNumber(s string, base, bits int) (uint64, bool) {
	n, err := strconv.ParseUint(s, base, bits)
	// The library takes noughts ahead and capital letters, too.
	if err != nil || strconv.FormatUint(n, base) != s {
		return 0, false
	}
	return n, true
}

// Text writes a prefix.
func Text(p api.Prefix) (string, api.Errno) {
	if Check(p) != api.OK {
		return "", api.ErrArg
	}
	f := families[p.Fam]
	text := f.name + " "
	if f.rd {
		text += strconv.FormatUint(p.RD, 10) + " "
	}
	addr, _ := AddrText(p.Addr)
	return text + addr + "/" + strconv.Itoa(p.Len), api.OK
}

// Parse reads a prefix's text.
func Parse(s string) (api.Prefix, api.Errno) {
	p, ok := readPrefix(s)
	// The parts may be well written and still not fit one another.
	if !ok || Check(p) != api.OK {
		return api.Prefix{}, api.ErrForm
	}
	return p, api.OK
}

func readPrefix(s string) (api.Prefix, bool) {
	name, rest, _ := strings.Cut(s, " ")
	fam := named(name)
	if fam == 0 {
		return api.Prefix{}, false
	}
	rd := uint64(0)
	if families[fam].rd {
		word, behind, _ := strings.Cut(rest, " ")
		n, ok := readNumber(word, 10, 64)
		if !ok {
			return api.Prefix{}, false
		}
		rd, rest = n, behind
	}
	word, size, _ := strings.Cut(rest, "/")
	addr, err := Addr(word)
	n, ok := readNumber(size, 10, 8)
	return api.Prefix{Fam: fam, RD: rd, Addr: addr, Len: int(n)}, ok && err == api.OK
}

// named is the family of a name; 0, if there is none.
func named(name string) int {
	for fam, f := range families {
		if f.name == name {
			return fam
		}
	}
	return 0
}
