package aspath

import (
	"math"
	"strings"

	"herald/api"
	"herald/wire"
)

// trans stands for an AS that does not go into two bytes (AS_TRANS).
const trans = 23456

// sizeOf tells how many bytes an AS has.
func sizeOf(four bool) int {
	if four {
		return 4
	}
	return 2
}

// Encode lays a path's bytes.
func Encode(l []api.Seg, four bool) (string, api.Errno) {
	if Check(l) != api.OK {
		return "", api.ErrArg
	}
	var b strings.Builder
	put := func(v uint64, size int) {
		// All that is put goes into its size: kinds and counts of paths that may be, and ASs that fit has seen.
		laid, _ := wire.Put("", v, size)
		b.WriteString(laid)
	}
	for _, seg := range l {
		put(uint64(seg.Kind), 1)
		put(uint64(len(seg.AS)), 1)
		for _, as := range seg.AS {
			put(fit(as, four), sizeOf(four))
		}
	}
	return b.String(), api.OK
}

// fit answers the number by which an AS is laid.
func fit(as uint32, four bool) uint64 {
	if !four && as > math.MaxUint16 {
		return trans
	}
	return uint64(as)
}

// Decode reads a path from its bytes.
func Decode(s string, four bool) ([]api.Seg, api.Errno) {
	return gather(inBytes(wire.New(s), sizeOf(four)))
}

// inBytes tells the segments of bytes, one a call.
func inBytes(r *wire.Reader, size int) func() (api.Seg, api.Errno) {
	return func() (api.Seg, api.Errno) {
		if r.Left() == 0 {
			return api.Seg{}, api.ErrNone
		}
		kind, _ := r.Number(1)
		n, counted := r.Number(1)
		if !counted {
			return api.Seg{}, api.ErrForm
		}
		seg := api.Seg{Kind: int(kind)}
		for range n {
			as, ok := r.Number(size)
			if !ok {
				return api.Seg{}, api.ErrForm
			}
			seg.AS = append(seg.AS, uint32(as))
		}
		return seg, api.OK
	}
}
