package comm

import (
	"cmp"
	"slices"

	"herald/api"
	"herald/wire"
)

// How many bytes a community of each kind has.
const (
	plainSize = 4
	extSize   = 8
	largeSize = 12
)

// Encode lays plain communities as bytes.
func Encode(l []uint32) (string, api.Errno) {
	return encode(l, cmp.Compare[uint32], func(b string, c uint32) string {
		return put(b, uint64(c), plainSize)
	})
}

// Decode reads plain communities of bytes.
func Decode(s string) ([]uint32, api.Errno) {
	return decode(s, plainSize, cmp.Compare[uint32], func(r *wire.Reader) uint32 {
		return uint32(take(r, plainSize))
	})
}

// EncodeExts lays extended communities as bytes.
func EncodeExts(l []uint64) (string, api.Errno) {
	return encode(l, cmp.Compare[uint64], func(b string, x uint64) string {
		return put(b, x, extSize)
	})
}

// DecodeExts reads extended communities of bytes.
func DecodeExts(s string) ([]uint64, api.Errno) {
	return decode(s, extSize, cmp.Compare[uint64], func(r *wire.Reader) uint64 {
		return take(r, extSize)
	})
}

// EncodeLarges lays large communities as bytes.
func EncodeLarges(l []api.Large) (string, api.Errno) {
	return encode(l, compareLarges, func(b string, x api.Large) string {
		for _, part := range [...]uint32{x.Global, x.A, x.B} {
			b = put(b, uint64(part), largeSize/3)
		}
		return b
	})
}

// DecodeLarges reads large communities of bytes.
func DecodeLarges(s string) ([]api.Large, api.Errno) {
	return decode(s, largeSize, compareLarges, func(r *wire.Reader) api.Large {
		part := func() uint32 { return uint32(take(r, largeSize/3)) }
		var x api.Large
		x.Global = part()
		x.A = part()
		x.B = part()
		return x
	})
}

// compareLarges is the order of large communities.
func compareLarges(x, y api.Large) int {
	return cmp.Or(cmp.Compare(x.Global, y.Global), cmp.Compare(x.A, y.A), cmp.Compare(x.B, y.B))
}

// encode lays communities of a kind: lay puts one of them behind what is laid.
func encode[T any](l []T, compare func(x, y T) int, lay func(b string, x T) string) (string, api.Errno) {
	if !mayBe(l, compare) {
		return "", api.ErrArg
	}
	b := ""
	for _, x := range l {
		b = lay(b, x)
	}
	return b, api.OK
}

// mayBe tells whether communities may be as a list: so few, rising, each once.
func mayBe[T any](l []T, compare func(x, y T) int) bool {
	if len(l) > api.MaxComms {
		return false
	}
	for i := range len(l) - 1 {
		if compare(l[i], l[i+1]) >= 0 {
			return false
		}
	}
	return true
}

// decode reads communities of a kind, in any order, in bytes of that size each: read takes one of them.
func decode[T comparable](s string, size int, compare func(x, y T) int, read func(r *wire.Reader) T) ([]T, api.Errno) {
	if s == "" || len(s)%size != 0 {
		return nil, api.ErrForm
	}
	isNew := firstMet[T](nil)
	var l []T
	for r := wire.New(s); r.Left() > 0; {
		x := read(r)
		if !isNew(x) {
			continue
		}
		// Given up at once: what stands behind may be long, and changes nothing any more.
		if len(l) == api.MaxComms {
			return nil, api.ErrLong
		}
		l = append(l, x)
	}
	slices.SortFunc(l, compare)
	return l, api.OK
}

// put lays a number behind bytes. The sizes of this package have room for their numbers, so nothing can be refused.
func put(b string, v uint64, size int) string {
	b, _ = wire.Put(b, v, size)
	return b
}

// take reads a number; decode asks for none that is not there.
func take(r *wire.Reader, size int) uint64 {
	v, _ := r.Number(size)
	return v
}
