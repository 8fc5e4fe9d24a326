package nlri

import (
	"strings"

	"herald/api"
	"herald/prim"
	"herald/wire"
)

// countSize is how many bytes tell how many bits follow.
const countSize = 1

// noLabel stands where a label would, in what neighbours take back; it is the only one whose lowest bit may be 0.
const noLabel = 0x800000

// shape is how many bytes each piece of a family's told prefixes has; 0, where there is no such piece.
type shape struct {
	id, label, rd int
	// addr is a whole address; of it just the bytes that Len bits need are told.
	addr int
}

// shapeOf answers the shape of a family's told prefixes, with ids or without.
func shapeOf(fam int, add bool) shape {
	of := shape{addr: prim.Size(fam)}
	if add {
		of.id = 4
	}
	if withLabels(fam) {
		of.label = 3
	}
	if withDistinguishers(fam) {
		of.rd = 8
	}
	return of
}

// extra tells how many bits count beside those of the prefix.
func (of shape) extra() int { return 8 * (of.label + of.rd) }

// bytesOf tells how many bytes so many bits need.
func bytesOf(bits int) int { return (bits + 7) / 8 }

// Encode lays told prefixes of one family, one behind the other.
func Encode(l []api.Nlri, fam int, add bool) (string, api.Errno) {
	if prim.Size(fam) == 0 {
		return "", api.ErrArg
	}
	of := shapeOf(fam, add)
	var b strings.Builder
	for _, n := range l {
		if Check(n) != api.OK || n.Prefix.Fam != fam || n.Id > 0 && !add {
			return "", api.ErrArg
		}
		of.lay(&b, n)
	}
	return b.String(), api.OK
}

// lay lays one told prefix that may be.
func (of shape) lay(b *strings.Builder, n api.Nlri) {
	put := func(v uint64, size int) {
		// A piece that is not there has no bytes, and is refused; all others go into their sizes.
		laid, _ := wire.Put("", v, size)
		b.WriteString(laid)
	}
	put(uint64(n.Id), of.id)
	put(uint64(n.Prefix.Len+of.extra()), countSize)
	put(uint64(n.Label)<<4|1, of.label)
	put(n.Prefix.RD, of.rd)
	b.WriteString(n.Prefix.Addr[:bytesOf(n.Prefix.Len)])
}

// Decode reads told prefixes of one family from their bytes, in the order in which they stand.
func Decode(s string, fam int, add bool) ([]api.Nlri, api.Errno) {
	if prim.Size(fam) == 0 {
		return nil, api.ErrArg
	}
	of := shapeOf(fam, add)
	r := wire.New(s)
	var l []api.Nlri
	for r.Left() > 0 {
		n, err := of.take(r)
		if err != api.OK {
			return nil, err
		}
		n.Prefix.Fam = fam
		l = append(l, n)
	}
	return l, api.OK
}

// take takes one told prefix, all but its family.
func (of shape) take(r *wire.Reader) (api.Nlri, api.Errno) {
	wrong := api.OK
	must := func(holds bool) {
		if !holds && wrong == api.OK {
			wrong = api.ErrForm
		}
	}
	piece := func(size int) string {
		b, ok := r.Take(size)
		must(ok)
		return b
	}
	number := func(size int) uint64 {
		// A piece that is not there has no bytes, and counts as 0.
		v, _ := wire.New(piece(size)).Number(size)
		return v
	}
	id := number(of.id)
	bits := int(number(countSize)) - of.extra()
	must(bits >= 0 && bits <= 8*of.addr)
	label, ok := labelOf(number(of.label))
	must(ok || of.label == 0)
	rd := number(of.rd)
	laid := piece(bytesOf(bits))
	if wrong != api.OK {
		return api.Nlri{}, wrong
	}
	prefix := api.Prefix{RD: rd, Addr: address(laid, bits, of.addr), Len: bits}
	return api.Nlri{Prefix: prefix, Id: uint32(id), Label: label}, api.OK
}

// labelOf answers the label that three bytes lay; false, if they say that another one follows.
func labelOf(v uint64) (uint32, bool) {
	if v == noLabel {
		return 0, true
	}
	if v&1 == 0 {
		return 0, false
	}
	// The three bits between the label and its lowest one are a packet's, and have no say here.
	return uint32(v >> 4), true
}

// address is one of that size with the first bits of what was laid: those behind them may be anything there.
func address(laid string, bits, size int) string {
	addr := make([]byte, size)
	for i := range bits {
		addr[i/8] |= byte(prim.Bit(laid, i)) << (7 - i%8)
	}
	return string(addr)
}
