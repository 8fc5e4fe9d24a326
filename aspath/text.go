package aspath

import (
	"strconv"
	"strings"

	"herald/api"
)

// none is the text of a path without segments.
const none = "-"

// brackets stand at the kinds of segments: the one that opens, then the one that closes.
var brackets = [...]string{
	api.SegSet:     "{}",
	api.SegSeq:     "<>",
	api.SegConfSeq: "()",
	api.SegConfSet: "[]",
}

// Text writes a path's text.
func Text(l []api.Seg) (string, api.Errno) {
	if Check(l) != api.OK {
		return "", api.ErrArg
	}
	if len(l) == 0 {
		return none, api.OK
	}
	segs := make([]string, len(l))
	for i, seg := range l {
		segs[i] = segText(seg)
	}
	return strings.Join(segs, " "), api.OK
}

// segText writes a segment that may be.
func segText(seg api.Seg) string {
	words := make([]string, len(seg.AS))
	for i, as := range seg.AS {
		words[i] = strconv.FormatUint(uint64(as), 10)
	}
	pair := brackets[seg.Kind]
	return pair[:1] + strings.Join(words, " ") + pair[1:]
}

// Parse reads a path from its text.
func Parse(s string) ([]api.Seg, api.Errno) {
	if s == none {
		return nil, api.OK
	}
	return gather(inText(s))
}

// inText tells the segments of a text, one a call.
func inText(s string) func() (api.Seg, api.Errno) {
	// more is true ahead of the first one too: a text of nothing is no path's.
	more := true
	return func() (api.Seg, api.Errno) {
		if !more && s == "" {
			return api.Seg{}, api.ErrNone
		}
		seg, rest, ok := parseSeg(s)
		if !more || !ok {
			return api.Seg{}, api.ErrForm
		}
		s, more = strings.CutPrefix(rest, " ")
		return seg, api.OK
	}
}

// parseSeg reads the segment with which a text begins, and answers what stands behind it.
func parseSeg(s string) (api.Seg, string, bool) {
	for kind, pair := range brackets {
		if pair == "" || !strings.HasPrefix(s, pair[:1]) {
			continue
		}
		inner, rest, closed := strings.Cut(s[1:], pair[1:])
		if !closed {
			break
		}
		as, ok := parseNumbers(inner)
		return api.Seg{Kind: kind, AS: as}, rest, ok
	}
	return api.Seg{}, "", false
}

// parseNumbers reads ASs with one blank between two; no more than it takes to see that there are too many.
func parseNumbers(s string) ([]uint32, bool) {
	var l []uint32
	for more := true; more && len(l) <= api.MaxAS; {
		var word string
		word, s, more = strings.Cut(s, " ")
		as, ok := parseNumber(word)
		if !ok {
			return nil, false
		}
		l = append(l, as)
	}
	return l, true
}

// parseNumber reads a number in just the form in which it is written: so no nought stands ahead of it.
func parseNumber(s string) (uint32, bool) {
	v, err := strconv.ParseUint(s, 10, 32)
	if err != nil || strconv.FormatUint(v, 10) != s {
		return 0, false
	}
	return uint32(v), true
}
