// Package prim is layer 1: addresses, families, prefixes and their orders; see shared/doc/01-prim.md.
package prim

import (
	"cmp"

	"herald/api"
)

// family is what is known of a family: its name in texts, the bytes of its addresses, whether it is with distinguishers.
type family struct {
	name string
	size int
	rd   bool
}

// families stand at their numbers; the row 0 is no family.
var families = [...]family{
	api.V4:   {"v4", 4, false},
	api.V6:   {"v6", 16, false},
	api.L4:   {"l4", 4, false},
	api.Vpn4: {"vpn4", 4, true},
	api.Vpn6: {"vpn6", 16, true},
}

// Size tells how many bytes a family's addresses have; 0, if it is no family.
func Size(fam int) int {
	if fam < 0 || fam >= len(families) {
		return 0
	}
	return families[fam].size
}

// Check answers ErrArg, if the prefix may not be.
func Check(p api.Prefix) api.Errno {
	size := Size(p.Fam)
	if size == 0 || len(p.Addr) != size || p.Len < 0 || p.Len > 8*size {
		return api.ErrArg
	}
	if p.RD != 0 && !families[p.Fam].rd {
		return api.ErrArg
	}
	// A bit behind the first Len ones would be lost here.
	if head(p, p.Len) != p {
		return api.ErrArg
	}
	return api.OK
}

// Cmp tells the order of any two prefixes, those that may not be among them.
func Cmp(a, b api.Prefix) int {
	return inTurn(
		func() int { return cmp.Compare(a.Fam, b.Fam) },
		func() int { return cmp.Compare(a.RD, b.RD) },
		func() int { return cmp.Compare(a.Addr, b.Addr) },
		func() int { return cmp.Compare(a.Len, b.Len) },
	)
}

// inTurn puts orders together: the first one that tells the two apart counts.
func inTurn(orders ...func() int) int {
	for _, order := range orders {
		if c := order(); c != 0 {
			return c
		}
	}
	return 0
}

// Covers tells whether a covers b; false, if one may not be.
func Covers(a, b api.Prefix) bool {
	// What covers b is just what Cut tells of it; so an a that may not be, or that is longer, is none.
	cut, err := Cut(b, a.Len)
	return err == api.OK && cut == a
}

// Cut answers the prefix of the first n bits.
func Cut(p api.Prefix, n int) (api.Prefix, api.Errno) {
	if Check(p) != api.OK || n < 0 || n > p.Len {
		return api.Prefix{}, api.ErrArg
	}
	return head(p, n), api.OK
}

// head is p with its first n bits alone.
func head(p api.Prefix, n int) api.Prefix {
	b := []byte(p.Addr)
	for i := range b {
		b[i] &= mask(n - 8*i)
	}
	p.Addr, p.Len = string(b), n
	return p
}

// mask has a byte's first n bits: all of them above 8, none below 0.
func mask(n int) byte {
	return byte(0xff) << (8 - min(max(n, 0), 8))
}

// Bit tells the bit n of an address, from 0 on; 0, if there is none.
func Bit(addr string, n int) int {
	if n < 0 || n/8 >= len(addr) {
		return 0
	}
	return int(addr[n/8]>>(7-n%8)) & 1
}
