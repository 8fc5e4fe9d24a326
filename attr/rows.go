package attr

import (
	"math"
	"strings"

	"herald/api"
	"herald/aspath"
	"herald/comm"
	"herald/wire"
)

// The types that are known.
const (
	typeOrigin = 1 + iota
	typePath
	typeNext
	typeMed
	typePref
	typeAtomic
	typeAggregator
	typeComms
	typeOriginator
	typeClusters
	typeExts   = 16
	typeLarges = 32
)

// The types of prefixes of other families: their values are judged where prefixes are known.
const (
	typeReach = 14 + iota
	typeUnreach
)

// known are the types that are known, rising.
var known = [...]uint8{
	typeOrigin, typePath, typeNext, typeMed, typePref, typeAtomic, typeAggregator,
	typeComms, typeOriginator, typeClusters, typeExts, typeLarges,
}

// The two highest bits of Flags.
const (
	optional   = 0x80
	transitive = 0x40
	both       = optional | transitive
)

const (
	numberSize = 4
	// trans stands for an AS that does not go into two bytes (AS_TRANS).
	trans = 23456
)

// row is what is known of a type.
type row struct {
	bits  uint8                                 // of Flags
	wrong int                                   // what is to be done, if the value is wrong
	lay   func(a *api.Attrs) (string, bool)     // the value; false, if there is none in the attributes
	take  func(a *api.Attrs, value string) bool // puts the value into the attributes; false, if it is wrong: then they stay as they are
}

// rowOf makes the row of a type; false, if it is not known.
func rowOf(typ uint8, four bool) (row, bool) {
	switch typ {
	case typeOrigin:
		return row{transitive, api.Withdraw, layOrigin, takeOrigin}, true
	case typePath:
		return pathRow(four), true
	case typeNext:
		return row{transitive, api.Withdraw, layNext, takeNext}, true
	case typeMed:
		return numberRow(optional, func(a *api.Attrs) (*bool, *uint32) { return &a.HasMed, &a.Med }), true
	case typePref:
		return numberRow(transitive, func(a *api.Attrs) (*bool, *uint32) { return &a.HasPref, &a.Pref }), true
	case typeAtomic:
		return row{transitive, api.Discard, layAtomic, takeAtomic}, true
	case typeAggregator:
		return aggregatorRow(four), true
	case typeComms:
		return listRow(both, func(a *api.Attrs) *[]uint32 { return &a.Comms }, comm.Encode, comm.Decode), true
	case typeOriginator:
		return numberRow(optional, func(a *api.Attrs) (*bool, *uint32) { return &a.HasOrig, &a.Orig }), true
	case typeClusters:
		return listRow(optional, func(a *api.Attrs) *[]uint32 { return &a.Clusters }, encodeClusters, decodeClusters), true
	case typeExts:
		return listRow(both, func(a *api.Attrs) *[]uint64 { return &a.Exts }, comm.EncodeExts, comm.DecodeExts), true
	case typeLarges:
		return listRow(both, func(a *api.Attrs) *[]api.Large { return &a.Larges }, comm.EncodeLarges, comm.DecodeLarges), true
	}
	return row{}, false
}

func layOrigin(a *api.Attrs) (string, bool) { return put(uint64(a.Origin), 1), true }

func takeOrigin(a *api.Attrs, value string) bool {
	if len(value) != 1 || value[0] > api.Incomplete {
		return false
	}
	a.Origin = int(value[0])
	return true
}

// layNext leaves an address of 16 bytes out: the attribute has room for 4 alone.
func layNext(a *api.Attrs) (string, bool) { return a.Next, len(a.Next) == 4 }

func takeNext(a *api.Attrs, value string) bool {
	if len(value) != 4 {
		return false
	}
	a.Next = value
	return true
}

func layAtomic(a *api.Attrs) (string, bool) { return "", a.Atomic }

func takeAtomic(a *api.Attrs, value string) bool {
	if value != "" {
		return false
	}
	a.Atomic = true
	return true
}

// pathRow makes the row of a path, which is there even if it has no segment.
func pathRow(four bool) row {
	lay := func(a *api.Attrs) (string, bool) {
		value, _ := aspath.Encode(a.Path, four)
		return value, true
	}
	take := func(a *api.Attrs, value string) bool {
		l, err := aspath.Decode(value, four)
		if err != api.OK {
			return false
		}
		a.Path = l
		return true
	}
	return row{transitive, api.Withdraw, lay, take}
}

// numberRow makes the row of a number that has a flag of its own: at tells where both stand.
func numberRow(bits uint8, at func(a *api.Attrs) (*bool, *uint32)) row {
	lay := func(a *api.Attrs) (string, bool) {
		has, v := at(a)
		return put(uint64(*v), numberSize), *has
	}
	take := func(a *api.Attrs, value string) bool {
		v, ok := wire.New(value).Number(numberSize)
		if !ok || len(value) != numberSize {
			return false
		}
		has, to := at(a)
		*has, *to = true, uint32(v)
		return true
	}
	return row{bits, api.Withdraw, lay, take}
}

// listRow makes the row of a list that is not there if it is empty: at tells where it stands.
func listRow[T any](bits uint8, at func(a *api.Attrs) *[]T, encode func([]T) (string, api.Errno), decode func(string) ([]T, api.Errno)) row {
	lay := func(a *api.Attrs) (string, bool) {
		value, _ := encode(*at(a))
		return value, value != ""
	}
	take := func(a *api.Attrs, value string) bool {
		l, err := decode(value)
		if err != api.OK {
			return false
		}
		*at(a) = l
		return true
	}
	return row{bits, api.Withdraw, lay, take}
}

// aggregatorRow makes the row of the AS and the router that aggregated.
func aggregatorRow(four bool) row {
	size := 2
	if four {
		size = 4
	}
	lay := func(a *api.Attrs) (string, bool) {
		as := uint64(a.AggAS)
		if !four && as > math.MaxUint16 {
			as = trans
		}
		return put(as, size) + put(uint64(a.AggId), numberSize), a.AggAS > 0
	}
	take := func(a *api.Attrs, value string) bool {
		r := wire.New(value)
		as, _ := r.Number(size)
		id, ok := r.Number(numberSize)
		if as == 0 || !ok || r.Left() > 0 {
			return false
		}
		a.AggAS, a.AggId = uint32(as), uint32(id)
		return true
	}
	return row{both, api.Discard, lay, take}
}

// encodeClusters lays clusters, in the order in which they were gone through.
func encodeClusters(l []uint32) (string, api.Errno) {
	var b strings.Builder
	for _, id := range l {
		b.WriteString(put(uint64(id), numberSize))
	}
	return b.String(), api.OK
}

func decodeClusters(s string) ([]uint32, api.Errno) {
	if s == "" || len(s)%numberSize != 0 {
		return nil, api.ErrForm
	}
	if len(s) > numberSize*api.MaxClusters {
		return nil, api.ErrLong
	}
	var l []uint32
	for r := wire.New(s); r.Left() > 0; {
		id, _ := r.Number(numberSize)
		l = append(l, uint32(id))
	}
	return l, api.OK
}

// put lays a number of which it is known that it goes into that size.
func put(v uint64, size int) string {
	b, _ := wire.Put("", v, size)
	return b
}
