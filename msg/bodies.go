package msg

import (
	"herald/api"
	"herald/reach"
	"herald/wire"
)

// The sizes of what stands in bodies.
const (
	byteSize    = 1
	afiSize     = 2
	noteSize    = 2 * byteSize         // of a note without data
	refreshSize = afiSize + 2*byteSize // there is a byte between AFI and SAFI
)

// put lays a number that goes into so many bytes.
func put(b string, v uint64, size int) string {
	laid, _ := wire.Put(b, v, size)
	return laid
}

// Note lays the body of a NOTIFICATION.
func Note(n api.Note) (string, api.Errno) {
	switch {
	case n.Code == 0:
		return "", api.ErrArg
	case noteSize+len(n.Data) > api.MaxBody:
		return "", api.ErrLong
	}
	code := put("", uint64(n.Code), byteSize)
	return put(code, uint64(n.Sub), byteSize) + n.Data, api.OK
}

// ReadNote reads the body of a NOTIFICATION.
func ReadNote(b string) (api.Note, api.Errno) {
	if len(b) > api.MaxBody {
		return api.Note{}, api.ErrLong
	}
	r := wire.New(b)
	code, _ := r.Number(byteSize)
	sub, whole := r.Number(byteSize)
	if !whole || code == 0 {
		return api.Note{}, api.ErrForm
	}
	return api.Note{Code: uint8(code), Sub: uint8(sub), Data: r.Rest()}, api.OK
}

// Refresh lays the body of a ROUTE-REFRESH, which asks for all of a family once more.
func Refresh(fam int) (string, api.Errno) {
	afi, safi, is := reach.Afi(fam)
	if !is {
		return "", api.ErrArg
	}
	body := put("", uint64(afi), afiSize)
	body = put(body, 0, byteSize)
	return put(body, uint64(safi), byteSize), api.OK
}

// ReadRefresh reads the body of a ROUTE-REFRESH, and answers the family.
func ReadRefresh(b string) (int, api.Errno) {
	if len(b) != refreshSize {
		return 0, api.ErrForm
	}
	r := wire.New(b)
	afi, _ := r.Number(afiSize)
	// Neighbours may lay any byte between the two.
	r.Take(byteSize)
	safi, _ := r.Number(byteSize)
	fam := reach.Fam(uint16(afi), uint8(safi))
	if fam == 0 {
		return 0, api.ErrNone
	}
	return fam, api.OK
}
