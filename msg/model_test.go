package msg_test

import (
	"encoding/hex"
	"fmt"
	"math"
	"strings"
	"testing"

	"herald/api"
)

// span is how many bytes bodies of a kind have, as the document writes it.
type span struct{ least, most int }

var spans = map[int]span{
	api.KindOpen:    {10, 4077},
	api.KindUpdate:  {4, 4077},
	api.KindNote:    {2, 4077},
	api.KindKeep:    {0, 0},
	api.KindRefresh: {4, 4},
}

// kinds are the kinds, in order.
var kinds = []int{1, 2, 3, 4, 5}

// none are numbers that are neither kinds nor families, though the lowest bits of some are.
var none = []int{math.MinInt, math.MinInt + 1, math.MinInt32, -1 << 32, -65535, -256, -255, -6, -5, -4, -3, -2, -1, 0, 6, 7, 8, 9, 127, 128, 129, 133, 255, 256, 257, 261, 1 << 16, 1<<16 + 1, 1 << 31, 1 << 32, 1<<32 + 1, 1<<32 + 5, math.MaxInt32, math.MaxInt - 1, math.MaxInt}

// counts are numbers of bytes about all edges, and such that no body has.
var counts = []int{math.MinInt, math.MinInt + 1, math.MinInt32, -1 << 32, -65526, -4077, -256, -19, -11, -10, -4, -2, -1, 0, 1, 2, 3, 4, 5, 9, 10, 11, 18, 19, 20, 22, 23, 28, 29, 30, 255, 256, 257, 260, 266, 4057, 4058, 4075, 4076, 4077, 4078, 4079, 4095, 4096, 4097, 65535, 65536, 65540, 65546, 1 << 31, 1 << 32, 1<<32 + 4, 1<<32 + 10, math.MaxInt32, math.MaxInt - 1, math.MaxInt}

// pairs are the families' pairs, as the document writes them: AFI, and SAFI.
var pairs = map[int][2]int{
	api.V4:   {1, 1},
	api.V6:   {2, 1},
	api.L4:   {1, 4},
	api.Vpn4: {1, 128},
	api.Vpn6: {2, 128},
}

func reset(code, sub uint8) api.Verdict {
	return api.Verdict{Action: api.Reset, Code: code, Sub: sub}
}

// sized is the model of Size: each thing by itself, in the document's order.
func sized(kind, body int) api.Verdict {
	span, is := spans[kind]
	for _, thing := range []struct {
		holds bool
		sub   uint8
	}{
		{!is, 3},
		{body < span.least, 2},
		{body > span.most, 2},
	} {
		if thing.holds {
			return reset(1, thing.sub)
		}
	}
	return api.Verdict{}
}

// laid is the model of a note's body.
func laid(n api.Note) string {
	return raw(fmt.Sprintf("%02x%02x", n.Code, n.Sub)) + n.Data
}

// asked is the model of a refresh's body, with any third byte.
func asked(afi, third, safi int) string {
	return raw(fmt.Sprintf("%04x%02x%02x", afi, third, safi))
}

// famOf is the model of what a pair says; 0, if it is none's.
func famOf(afi, safi int) int {
	for fam, pair := range pairs {
		if pair == [2]int{afi, safi} {
			return fam
		}
	}
	return 0
}

// raw is bytes from their digits; blanks among them are for the eye.
func raw(digits string) string {
	b, err := hex.DecodeString(strings.ReplaceAll(digits, " ", ""))
	if err != nil {
		panic(err)
	}
	return string(b)
}

// some are bytes of which no two near one another are the same, high ones among them.
func some(n int) string {
	b := make([]byte, n)
	for i := range b {
		b[i] = byte(0xf1 + 37*i)
	}
	return string(b)
}

// data are what notes may tell besides: nothing, noughts, what looks like a note, texts, and so on, up to what just fits.
func data() []string {
	return []string{"", "\x00", "\x00\x00", "\xff", "x", "\x06\x02", "\x00\x02x", "\x80\xbf\xc0", "\u00e9t\u00e9", some(19), some(127), some(128), some(255), some(256), some(257), some(4073), some(4074), some(4075), strings.Repeat("\x00", 4075)}
}

// codes are a note's codes and subcodes about their edges.
var codes = []uint8{0, 1, 2, 3, 4, 5, 6, 7, 10, 127, 128, 129, 254, 255}

// brief shows whatever it is in at most some bytes.
func brief(x any) string {
	s := fmt.Sprintf("%#v", x)
	if len(s) > 200 {
		s = strings.ToValidUTF8(s[:200], "") + ".."
	}
	return s
}

// wantSame holds an answer, and the error beside it, against what they must be.
func wantSame[T comparable](t *testing.T, call string, got T, err api.Errno, want T, must api.Errno) {
	t.Helper()
	if got != want || err != must {
		t.Errorf("%s: %s, %d, want %s, %d", call, brief(got), err, brief(want), must)
	}
}
