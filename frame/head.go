package frame

import "herald/api"

// marker is how each message begins.
const marker = "\xff\xff\xff\xff\xff\xff\xff\xff" + "\xff\xff\xff\xff\xff\xff\xff\xff"

// The places of a header behind its marker, and where it ends.
const (
	highAt = len(marker) + iota // of the length
	lowAt
	kindAt
	headSize
)

// headerError is the code of a notification that tells what is wrong with a header.
const headerError = 1

// Its subcodes.
const (
	notMarked = 1 + iota
	badLength
	badKind
)

// sizes are the least and the most bytes of a message, by its kind.
var sizes = [...]struct{ least, most int }{
	api.KindOpen:    {29, api.MaxMessage},
	api.KindUpdate:  {23, api.MaxMessage},
	api.KindNote:    {21, api.MaxMessage},
	api.KindKeep:    {headSize, headSize},
	api.KindRefresh: {23, 23},
}

func isKind(kind int) bool { return kind >= api.KindOpen && kind <= api.KindRefresh }

// fits tells whether a message of a kind that is one may have so many bytes.
func fits(kind, length int) bool {
	return length >= sizes[kind].least && length <= sizes[kind].most
}

// lengthOf is the length that a header tells.
func lengthOf(head []byte) int { return int(head[highAt])<<8 | int(head[lowAt]) }

// wrongWith tells the first thing that is wrong with a header.
func wrongWith(head []byte) api.Verdict {
	length, kind := lengthOf(head), int(head[kindAt])
	switch {
	case string(head[:len(marker)]) != marker:
		return reset(notMarked)
	case length < headSize || length > api.MaxMessage:
		return reset(badLength)
	case !isKind(kind):
		return reset(badKind)
	case !fits(kind, length):
		return reset(badLength)
	}
	return api.Verdict{}
}

func reset(sub uint8) api.Verdict {
	return api.Verdict{Action: api.Reset, Code: headerError, Sub: sub}
}

// head lays the header of a message of so many bytes.
func head(kind, length int) string {
	return marker + string([]byte{byte(length >> 8), byte(length), byte(kind)})
}
