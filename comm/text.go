package comm

import (
	"strconv"
	"strings"

	"herald/api"
)

// names are the communities that have one.
var names = [...]struct {
	c    uint32
	text string
}{
	{api.NoExport, "no-export"},
	{api.NoAdvertise, "no-advertise"},
	{api.NoConfed, "no-export-subconfed"},
}

// Text answers a community's name, or its two halves where it has none.
func Text(c uint32) string {
	for _, n := range names {
		if n.c == c {
			return n.text
		}
	}
	return half(c>>16) + ":" + half(c&0xffff)
}

// half writes one half of a community.
func half(v uint32) string { return strconv.FormatUint(uint64(v), 10) }

// Parse reads a community's text.
func Parse(s string) (uint32, api.Errno) {
	for _, n := range names {
		if n.text == s {
			return n.c, api.OK
		}
	}
	high, low, _ := strings.Cut(s, ":")
	h, _ := strconv.ParseUint(high, 10, 16)
	l, _ := strconv.ParseUint(low, 10, 16)
	c := uint32(h<<16 | l)
	// Each community has one text: whatever is no number of 16 bits, has noughts ahead, or stands for one with a name is written otherwise.
	if Text(c) != s {
		return 0, api.ErrForm
	}
	return c, api.OK
}
