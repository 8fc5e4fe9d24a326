package frame_test

import (
	"encoding/hex"
	"fmt"
	"math"
	"slices"
	"strings"
	"testing"

	"herald/api"
	"herald/frame"
)

// span is how many bytes messages of a kind have, as the document writes it.
type span struct{ least, most int }

var spans = map[int]span{
	api.KindOpen:    {29, 4096},
	api.KindUpdate:  {23, 4096},
	api.KindNote:    {21, 4096},
	api.KindKeep:    {19, 19},
	api.KindRefresh: {23, 23},
}

// kinds are the kinds, in order.
var kinds = []int{1, 2, 3, 4, 5}

// none are numbers that are no kinds.
var none = []int{math.MinInt, math.MinInt32, -256, -5, -1, 0, 6, 7, 255, 256, 257, 260, 1 << 32, 1<<32 + 4, math.MaxInt32, math.MaxInt}

var (
	ones = strings.Repeat("\xff", 16)
	keep = raw("ffffffff ffffffff ffffffff ffffffff 0013 04")
)

// raw is bytes from their digits; blanks among them are for the eye.
func raw(digits string) string {
	b, err := hex.DecodeString(strings.ReplaceAll(digits, " ", ""))
	if err != nil {
		panic(err)
	}
	return string(b)
}

// some are bytes of which no two near one another are the same, high ones among them.
func some(n int) string {
	b := make([]byte, n)
	for i := range b {
		b[i] = byte(0xf1 + 37*i)
	}
	return string(b)
}

// header is one of any marker, length and kind.
func header(marker string, length, kind int) string {
	return marker + raw(fmt.Sprintf("%04x%02x", length, kind))
}

// message is one of that many bytes.
func message(kind, length int) string {
	return header(ones, length, kind) + some(length-19)
}

// framed is the frame of message.
func framed(kind, length int) api.Frame {
	return api.Frame{Kind: kind, Body: some(length - 19)}
}

func reset(sub uint8) api.Verdict { return api.Verdict{Action: api.Reset, Code: 1, Sub: sub} }

// told is what a stream has told in all.
type told struct {
	frames []api.Frame
	wrong  api.Verdict
	left   int
}

func same(a, b told) bool {
	return a.wrong == b.wrong && a.left == b.left && slices.Equal(a.frames, b.frames)
}

// wrongWith is the model of what is wrong with a header: each thing by itself, in the document's order.
func wrongWith(head string) api.Verdict {
	var length, kind int
	fmt.Sscanf(hex.EncodeToString([]byte(head[16:])), "%04x%02x", &length, &kind)
	span, is := spans[kind]
	for _, thing := range []struct {
		holds bool
		sub   uint8
	}{
		{strings.Count(head[:16], "\xff") != 16, 1},
		{length < 19, 2},
		{length > 4096, 2},
		{!is, 3},
		{length < span.least || length > span.most, 2},
	} {
		if thing.holds {
			return reset(thing.sub)
		}
	}
	return api.Verdict{}
}

// all is the model: it goes through all bytes of a stream from the beginning.
func all(s string) told {
	var t told
	for len(s) >= 19 {
		if v := wrongWith(s[:19]); v != (api.Verdict{}) {
			return told{frames: t.frames, wrong: v}
		}
		length := int(s[16])*256 + int(s[17])
		if len(s) < length {
			break
		}
		t.frames = append(t.frames, api.Frame{Kind: int(s[18]), Body: s[19:length]})
		s = s[length:]
	}
	t.left = len(s)
	return t
}

// follow puts pieces, and holds each answer against what the model tells of all that has come, and had come ahead.
func follow(t *testing.T, f *frame.Framer, came string, pieces []string) {
	t.Helper()
	for i, piece := range pieces {
		ahead := all(came)
		came += piece
		now := all(came)
		want := told{now.frames[len(ahead.frames):], now.wrong, now.left}
		frames, v := f.Put(piece)
		if got := (told{frames, v, f.Left()}); !same(got, want) {
			t.Fatalf("%d pieces, the last of them %s: %s, want %s", i+1, brief(piece), brief(got), brief(want))
		}
	}
}

// pour puts pieces, and gathers what is told.
func pour(f *frame.Framer, pieces []string) told {
	var t told
	for _, piece := range pieces {
		frames, v := f.Put(piece)
		t.frames = append(t.frames, frames...)
		t.wrong = v
	}
	t.left = f.Left()
	return t
}

// by cuts a stream into pieces of n bytes.
func by(s string, n int) []string {
	var pieces []string
	for len(s) > n {
		pieces = append(pieces, s[:n])
		s = s[n:]
	}
	return append(pieces, s)
}

// good are streams that do not break: of nothing, of each kind, of the least and the most lengths, of bodies that look like messages, cut off in a header and in a body.
func good() []string {
	inner := header(ones, 19+2*len(keep), api.KindUpdate) + keep + keep
	bad := header(ones, 19+40, api.KindNote) + strings.Repeat("\x00", 40)
	l := []string{
		"", keep, keep + keep, keep + keep + keep[:5], keep[:18], ones, inner, bad, inner + bad + keep + inner[:40],
		message(1, 29) + message(2, 23) + message(3, 21) + message(4, 19) + message(5, 23),
		message(5, 23) + message(4, 19) + message(3, 22) + message(2, 24) + message(1, 30),
		message(2, 255) + message(2, 256) + message(3, 257) + message(1, 258) + keep[:17],
		keep + message(3, 300)[:290],
	}
	return l
}

// long are streams with messages of the most bytes that they may have.
func long() []string {
	return []string{
		message(2, 4096) + keep + message(3, 4095) + message(1, 4096) + message(1, 4096)[:4095],
		strings.Repeat(keep, 500) + keep[:7],
	}
}

// broken are headers that break a stream, with what they break it by.
func broken() map[string]api.Verdict {
	l := map[string]api.Verdict{}
	for i := range 16 {
		for _, c := range []string{"\x00", "\x7f", "\xfe"} {
			l[header(ones[:i]+c+ones[i+1:], 19, 4)] = reset(1)
		}
	}
	for _, length := range []int{0, 1, 18, 4097, 4098, 4096 + 19, 0x8013, 65535} {
		for _, kind := range kinds {
			l[header(ones, length, kind)] = reset(2)
		}
	}
	for _, kind := range []int{0, 6, 7, 127, 128, 129, 132, 254, 255} {
		for _, length := range []int{19, 23, 29, 4096} {
			l[header(ones, length, kind)] = reset(3)
		}
	}
	for kind, span := range spans {
		if span.least > 19 {
			l[header(ones, span.least-1, kind)] = reset(2)
			l[header(ones, 19, kind)] = reset(2)
		}
		l[header(ones, span.most+1, kind)] = reset(2)
	}
	return l
}

// brief shows whatever it is in at most some bytes.
func brief(x any) string {
	s := fmt.Sprintf("%#v", x)
	if len(s) > 300 {
		s = strings.ToValidUTF8(s[:300], "") + ".."
	}
	return s
}
