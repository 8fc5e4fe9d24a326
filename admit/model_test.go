package admit_test

import (
	"fmt"
	"math/big"
	"strings"

	"herald/api"
)

// bitsOf writes bytes as noughts and ones.
func bitsOf(b string) string {
	var s strings.Builder
	for i := range len(b) {
		fmt.Fprintf(&s, "%08b", b[i])
	}
	return s.String()
}

// modelCovers tells by texts of bits whether a range has an address.
func modelCovers(p api.Prefix, address string) bool {
	if p.RD != 0 || len(p.Addr) != len(address) || p.Len < 0 || p.Len > 8*len(address) {
		return false
	}
	if !(p.Fam == api.V4 && len(address) == 4 || p.Fam == api.V6 && len(address) == 16) {
		return false
	}
	bits := bitsOf(p.Addr)
	return !strings.Contains(bits[p.Len:], "1") && strings.HasPrefix(bitsOf(address), bits[:p.Len])
}

// modelFind goes through the list once for each thing that the document asks one behind the other.
func modelFind(l []api.Peer, address string) (int, bool) {
	if len(address) != 4 && len(address) != 16 {
		return 0, false
	}
	for i, p := range l {
		if p.Addr == address {
			return i, true
		}
	}
	for n := 8 * len(address); n >= 0; n-- {
		for i, p := range l {
			if p.Addr == "" && p.Range.Len == n && modelCovers(p.Range, address) {
				return i, true
			}
		}
	}
	return 0, false
}

// modelName is the name of what comes of a neighbour.
func modelName(name, address string) string {
	var words []string
	if len(address) == 4 {
		for i := range 4 {
			words = append(words, fmt.Sprint(address[i]))
		}
	} else {
		for i := 0; i < 16; i += 2 {
			words = append(words, fmt.Sprintf("%x", int(address[i])<<8|int(address[i+1])))
		}
	}
	return name + "-" + strings.Join(words, "-")
}

func modelDynamic(p api.Peer, address string) (api.Peer, api.Errno) {
	if p.Addr != "" || !modelCovers(p.Range, address) {
		return api.Peer{}, api.ErrArg
	}
	d := clone(p)
	d.Name, d.Addr, d.Range = modelName(p.Name, address), address, api.Prefix{}
	if len(d.Name) > 16 {
		return api.Peer{}, api.ErrLong
	}
	return d, api.OK
}

// modelAbove holds addresses against each other as numbers.
func modelAbove(mine, theirs string) bool {
	for _, a := range []string{mine, theirs} {
		if len(a) != 4 && len(a) != 16 {
			return false
		}
	}
	if len(mine) != len(theirs) {
		return len(mine) == 16
	}
	return new(big.Int).SetBytes([]byte(mine)).Cmp(new(big.Int).SetBytes([]byte(theirs))) > 0
}

// modelKeep answers which one goes as a word: old, new, or nothing.
func modelKeep(old int, greater, here, in bool) string {
	began := func(own bool) string { return map[bool]string{true: "this", false: "that"}[own] }
	older, newer, greatest := began(here), began(!in), began(greater)
	switch {
	case old < 1 || old > 6:
		return ""
	case old == 6:
		return "new"
	case older == newer || newer == greatest:
		return "old"
	}
	return "new"
}
