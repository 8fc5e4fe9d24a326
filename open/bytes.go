package open

import (
	"herald/api"
	"herald/wire"
)

const (
	version  = 4
	headSize = 10 // all that stands ahead of the parameters
	transAS  = 23456
	// capsKind is the kind of the one parameter that is known: it has capabilities.
	capsKind = 2
)

// The sizes of a body's numbers.
const (
	byteSize    = 1
	shortASSize = 2
	holdSize    = 2
	idSize      = 4
)

// openError is the code of a notification that tells what is wrong with an open.
const openError = 2

// Its subcodes.
const (
	badForm      = 0
	badVersion   = 1
	badAS        = 2
	badId        = 3
	badParameter = 4
	badHold      = 6
)

func reset(sub uint8) api.Verdict {
	return api.Verdict{Action: api.Reset, Code: openError, Sub: sub}
}

// put lays a number that goes into so many bytes.
func put(b string, v uint64, size int) string {
	laid, _ := wire.Put(b, v, size)
	return laid
}

// Encode lays an open.
func Encode(o api.Open) (string, api.Errno) {
	if !mayBe(o) {
		return "", api.ErrArg
	}
	body := put("", version, byteSize)
	body = put(body, shortAS(o.AS), shortASSize)
	body = put(body, uint64(o.Hold), holdSize)
	body = put(body, uint64(o.Id), idSize)
	// It has a family, and so a capability: there always is the parameter.
	parameter := piece(capsKind, capsOf(o))
	return put(body, uint64(len(parameter)), byteSize) + parameter, api.OK
}

// shortAS is what two bytes tell of an AS.
func shortAS(as uint32) uint64 {
	if as > maxShortAS {
		return transAS
	}
	return uint64(as)
}

// piece lays what parameters and capabilities both are: a byte that tells what it is, how many bytes follow, and these.
func piece(code uint8, value string) string {
	return put(put("", uint64(code), byteSize), uint64(len(value)), byteSize) + value
}

// Decode reads an open, and tells the first thing that is wrong with it.
func Decode(s string) (api.Open, api.Verdict) {
	o, v := takeHead(s)
	if v.Action != api.Fine {
		return api.Open{}, v
	}
	v = eachCap(s[headSize:], taker(&o))
	if v.Action != api.Fine {
		// What stood ahead of what is wrong was taken.
		return api.Open{}, v
	}
	if len(o.Fams) == 0 {
		o.Fams = []int{api.V4}
	}
	return o, v
}

// takeHead reads what stands ahead of the parameters.
func takeHead(s string) (api.Open, api.Verdict) {
	if len(s) < headSize {
		return api.Open{}, reset(badForm)
	}
	r := wire.New(s)
	first, _ := r.Number(byteSize)
	as, _ := r.Number(shortASSize)
	hold, _ := r.Number(holdSize)
	id, _ := r.Number(idSize)
	size, _ := r.Number(byteSize)
	switch {
	case first != version:
		return api.Open{}, reset(badVersion)
	case as == 0:
		return api.Open{}, reset(badAS)
	case !isHold(int(hold)):
		return api.Open{}, reset(badHold)
	case id == 0:
		return api.Open{}, reset(badId)
	case r.Left() != int(size):
		return api.Open{}, reset(badForm)
	}
	return api.Open{AS: uint32(as), Hold: int(hold), Id: uint32(id)}, api.Verdict{}
}

// eachCap hands the capabilities of all parameters to take, up to the first thing that is wrong.
func eachCap(s string, take func(code uint8, value string) api.Verdict) api.Verdict {
	return eachPiece(s, func(kind uint8, caps string) api.Verdict {
		if kind != capsKind {
			return reset(badParameter)
		}
		return eachPiece(caps, take)
	})
}

// eachPiece hands pieces to take, up to the first one that is wrong, or ends too early.
func eachPiece(s string, take func(code uint8, value string) api.Verdict) api.Verdict {
	for r := wire.New(s); r.Left() > 0; {
		code, _ := r.Number(byteSize)
		size, sized := r.Number(byteSize)
		value, whole := r.Take(int(size))
		if !sized || !whole {
			return reset(badForm)
		}
		if v := take(uint8(code), value); v.Action != api.Fine {
			return v
		}
	}
	return api.Verdict{}
}
