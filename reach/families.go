package reach

import (
	"slices"

	"herald/api"
	"herald/prim"
	"herald/wire"
)

// noDistinguisher stands where a next hop has room for a distinguisher: it never has one.
const noDistinguisher = "\x00\x00\x00\x00\x00\x00\x00\x00"

// The sizes of a pair's numbers.
const (
	afiSize  = 2
	safiSize = 1
)

// family is what is known of one: its pair, and how its next hops are laid.
type family struct {
	afi   uint16
	safi  uint8
	hop   int    // bytes of a next hop's address
	ahead string // stands ahead of that address
	twice bool   // a second address may be laid behind the first one, which alone counts
}

// families makes what is known of each of them, at its number; the row 0 is no family.
func families() [api.Families + 1]family {
	all := [...]family{
		api.V4:   {afi: 1, safi: 1},
		api.V6:   {afi: 2, safi: 1, twice: true},
		api.L4:   {afi: 1, safi: 4},
		api.Vpn4: {afi: 1, safi: 128, ahead: noDistinguisher},
		api.Vpn6: {afi: 2, safi: 128, ahead: noDistinguisher},
	}
	for fam := range all {
		all[fam].hop = prim.Size(fam)
	}
	return all
}

// familyOf answers what is known of a family; false, if it is none.
func familyOf(fam int) (family, bool) {
	if fam < api.V4 || fam > api.Families {
		return family{}, false
	}
	return families()[fam], true
}

// Afi answers the family's pair; false, if it is none.
func Afi(fam int) (uint16, uint8, bool) {
	of, is := familyOf(fam)
	return of.afi, of.safi, is
}

// Fam answers the family of a pair; 0, if there is none.
func Fam(afi uint16, safi uint8) int {
	all := families()
	at := slices.IndexFunc(all[:], func(of family) bool { return of.afi == afi && of.safi == safi })
	// The row 0, which the pair of noughts finds, is none either.
	return max(at, 0)
}

// pair lays the family's pair.
func (of family) pair() string {
	afi, _ := wire.Put("", uint64(of.afi), afiSize)
	pair, _ := wire.Put(afi, uint64(of.safi), safiSize)
	return pair
}

// takePair takes a pair, and answers its family.
func takePair(r *wire.Reader) (int, api.Errno) {
	// Asked for as one number: so a piece of a pair is not taken for the other one.
	pair, ok := r.Number(afiSize + safiSize)
	if !ok {
		return 0, api.ErrForm
	}
	fam := Fam(uint16(pair>>(8*safiSize)), uint8(pair))
	if fam == 0 {
		return 0, api.ErrNone
	}
	return fam, api.OK
}
