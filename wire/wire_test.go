package wire_test

import (
	"math"
	"math/big"
	"strconv"
	"strings"
	"testing"

	"herald/api"
	"herald/wire"
)

// numbers are sizes and counts that are near an edge, or so great that eight times them is a small one again.
var numbers = []int{math.MinInt, math.MinInt + 1, -1 << 61, -1 << 32, -256, -9, -8, -1, 0, 1, 2, 3, 4, 5, 6, 7, 8, 9, 10, 16, 64, 255, 256, 257, 264, 1 << 31, 1<<32 + 1, 1 << 61, 1<<61 + 1, 1<<61 + 8, 1 << 62, math.MaxInt - 1, math.MaxInt}

// model is what a reader must be: all its bytes, and how many of them are behind the place.
type model struct {
	all   string
	place int
}

func (m *model) take(n int) (string, bool) {
	if n < 0 || n > len(m.all)-m.place {
		return "", false
	}
	m.place += n
	return m.all[m.place-n : m.place], true
}

func (m *model) number(size int) (uint64, bool) {
	if size < 1 || size > 8 {
		return 0, false
	}
	b, ok := m.take(size)
	return value(b), ok
}

// value is the number that bytes lay, by a way of its own.
func value(b string) uint64 { return new(big.Int).SetBytes([]byte(b)).Uint64() }

// some are bytes of which no two near one another are the same, high ones among them.
func some(n int) string {
	b := make([]byte, n)
	for i := range b {
		b[i] = byte(0xf1 + 37*i)
	}
	return string(b)
}

func wantTake(t *testing.T, r *wire.Reader, n int, want string, wantOk bool) {
	t.Helper()
	if b, ok := r.Take(n); b != want || ok != wantOk {
		t.Errorf("Take(%d): %q, %t, not %q, %t", n, b, ok, want, wantOk)
	}
}

func wantNumber(t *testing.T, r *wire.Reader, size int, want uint64, wantOk bool) {
	t.Helper()
	if v, ok := r.Number(size); v != want || ok != wantOk {
		t.Errorf("Number(%d): %d, %t, not %d, %t", size, v, ok, want, wantOk)
	}
}

func wantLeft(t *testing.T, r *wire.Reader, want int) {
	t.Helper()
	if n := r.Left(); n != want {
		t.Errorf("Left: %d, not %d", n, want)
	}
}

func wantRest(t *testing.T, r *wire.Reader, want string) {
	t.Helper()
	if b := r.Rest(); b != want {
		t.Errorf("Rest: %q, not %q", b, want)
	}
}

func TestP2_1Examples(t *testing.T) {
	r := wire.New("\x01\x02\x03")
	wantTake(t, r, 1, "\x01", true)
	wantNumber(t, r, 2, 515, true)
	wantTake(t, r, 0, "", true)
	wantTake(t, r, 1, "", false)
	wantLeft(t, r, 0)

	r = wire.New("abc")
	wantTake(t, r, -1, "", false)
	wantNumber(t, r, 9, 0, false)
	wantNumber(t, r, 0, 0, false)
	wantNumber(t, r, 4, 0, false)
	wantRest(t, r, "abc")
	wantRest(t, r, "")
}

// TestP2_1EachCall asks a reader at each place of bytes of each length for each count and size.
func TestP2_1EachCall(t *testing.T) {
	for length := range 12 {
		for place := range length + 1 {
			for _, n := range numbers {
				at := func() (*wire.Reader, *model) {
					r, m := wire.New(some(length)), &model{some(length), place}
					wantTake(t, r, place, m.all[:place], true)
					wantLeft(t, r, length-place)
					return r, m
				}
				r, m := at()
				want, ok := m.take(n)
				wantTake(t, r, n, want, ok)
				wantLeft(t, r, length-m.place)
				wantRest(t, r, m.all[m.place:])
				r, m = at()
				v, ok := m.number(n)
				wantNumber(t, r, n, v, ok)
				wantLeft(t, r, length-m.place)
				wantRest(t, r, m.all[m.place:])
			}
		}
	}
}

func TestP2_1RestIsAtTheEnd(t *testing.T) {
	r := wire.New("abcde")
	wantTake(t, r, 2, "ab", true)
	wantRest(t, r, "cde")
	wantLeft(t, r, 0)
	wantTake(t, r, 0, "", true)
	wantTake(t, r, 1, "", false)
	wantNumber(t, r, 1, 0, false)
	wantRest(t, r, "")
}

func TestP2_1NoBytes(t *testing.T) {
	r := wire.New("")
	wantLeft(t, r, 0)
	wantTake(t, r, 1, "", false)
	wantNumber(t, r, 1, 0, false)
	wantTake(t, r, 0, "", true)
	wantRest(t, r, "")
}

// TestP2_1ReadersAreApart reads the same bytes by two readers, one ahead of the other.
func TestP2_1ReadersAreApart(t *testing.T) {
	s := some(20)
	a, b := wire.New(s), wire.New(s)
	wantTake(t, a, 15, s[:15], true)
	wantLeft(t, b, 20)
	wantNumber(t, b, 8, value(s[:8]), true)
	wantLeft(t, a, 5)
	wantRest(t, b, s[8:])
	wantRest(t, a, s[15:])
}

// TestP2_1NotMade asks readers that New did not make: nothing is there, even no bytes can't be taken.
func TestP2_1NotMade(t *testing.T) {
	for _, r := range []*wire.Reader{nil, {}, new(wire.Reader)} {
		for _, n := range numbers {
			wantTake(t, r, n, "", false)
			wantNumber(t, r, n, 0, false)
			wantLeft(t, r, 0)
			wantRest(t, r, "")
		}
		take, number, left, rest := r.Take, r.Number, r.Left, r.Rest
		if _, ok := take(0); ok || left() != 0 || rest() != "" {
			t.Error("method values of a reader that was not made answer something")
		}
		if v, ok := number(1); ok || v != 0 {
			t.Errorf("number(1): %d, %t", v, ok)
		}
	}
}

func wantPut(t *testing.T, b string, v uint64, size int, want string, wantErr api.Errno) {
	t.Helper()
	if s, err := wire.Put(b, v, size); s != want || err != wantErr {
		t.Errorf("Put(%q, %d, %d): %q, %d, not %q, %d", b, v, size, s, err, want, wantErr)
	}
}

func TestP2_2Examples(t *testing.T) {
	wantPut(t, "a", 258, 2, "a\x01\x02", api.OK)
	wantPut(t, "", 258, 1, "", api.ErrLong)
	wantPut(t, "", 0, 0, "", api.ErrArg)
	wantPut(t, "", math.MaxUint64, 8, strings.Repeat("\xff", 8), api.OK)
}

// TestP2_2EachSize lays, in each size, numbers that just go into one and that just do not.
func TestP2_2EachSize(t *testing.T) {
	values := []uint64{0, 1, 0x0102030405060708, 0xf1f2f3f4f5f6f7f8, math.MaxUint64 - 1, math.MaxUint64}
	for bits := 1; bits < 64; bits++ {
		values = append(values, 1<<bits-1, 1<<bits, 1<<bits+1)
	}
	for _, ahead := range []string{"", "a", "\x00", some(300)} {
		for _, v := range values {
			bytes := new(big.Int).SetUint64(v).Bytes()
			for _, size := range numbers {
				switch {
				case size < 1 || size > 8:
					wantPut(t, ahead, v, size, "", api.ErrArg)
				case size < len(bytes):
					wantPut(t, ahead, v, size, "", api.ErrLong)
				default:
					noughts := strings.Repeat("\x00", size-len(bytes))
					wantPut(t, ahead, v, size, ahead+noughts+string(bytes), api.OK)
				}
			}
		}
	}
}

// TestP2_2PutsOnTheSame lays two numbers behind the same bytes: neither changes the other one.
func TestP2_2PutsOnTheSame(t *testing.T) {
	b, _ := wire.Put("ab", 7, 4)
	x, _ := wire.Put(b, 0x6364, 2)
	y, _ := wire.Put(b, 0x6566, 2)
	if b != "ab\x00\x00\x00\x07" || x != b+"cd" || y != b+"ef" {
		t.Errorf("%q, %q, %q", b, x, y)
	}
}

func wantUnhex(t *testing.T, s, want string, wantErr api.Errno) {
	t.Helper()
	if b, err := wire.Unhex(s); b != want || err != wantErr {
		t.Errorf("Unhex(%q): %q, %d, not %q, %d", s, b, err, want, wantErr)
	}
}

func TestP2_3Examples(t *testing.T) {
	if s := wire.Hex("az"); s != "617a" {
		t.Error(s)
	}
	wantUnhex(t, "617a", "az", api.OK)
	wantUnhex(t, "6", "", api.ErrForm)
	wantUnhex(t, "6A", "", api.ErrForm)
}

// twoDigits is the model: a byte's digits, by the library.
func twoDigits(c byte) string {
	s := strconv.FormatUint(uint64(c), 16)
	return strings.Repeat("0", 2-len(s)) + s
}

func TestP2_3EachByte(t *testing.T) {
	all, text := "", ""
	for c := range 256 {
		b, want := string([]byte{byte(c)}), twoDigits(byte(c))
		if s := wire.Hex(b); s != want {
			t.Errorf("Hex(%q): %q, not %q", b, s, want)
		}
		wantUnhex(t, want, b, api.OK)
		all, text = all+b, text+want
	}
	if s := wire.Hex(all); s != text {
		t.Errorf("Hex of all bytes: %q", s)
	}
	wantUnhex(t, text, all, api.OK)
	if s := wire.Hex(""); s != "" {
		t.Errorf("Hex of nothing: %q", s)
	}
	wantUnhex(t, "", "", api.OK)
}

// TestP2_3EachPair reads every text of two bytes: alone, and with others ahead of it and behind it.
func TestP2_3EachPair(t *testing.T) {
	means := map[string]string{}
	for c := range 256 {
		means[twoDigits(byte(c))] = string([]byte{byte(c)})
	}
	for i := range 1 << 16 {
		pair := string([]byte{byte(i >> 8), byte(i)})
		b, ok := means[pair]
		if !ok {
			wantUnhex(t, pair, "", api.ErrForm)
			wantUnhex(t, "00"+pair, "", api.ErrForm)
			wantUnhex(t, pair+"ff", "", api.ErrForm)
			continue
		}
		wantUnhex(t, pair, b, api.OK)
		wantUnhex(t, "0f"+pair+"a1", "\x0f"+b+"\xa1", api.OK)
	}
}

func TestP2_3WrongTexts(t *testing.T) {
	for _, s := range []string{
		"0", "f", "617", "617a0", "617a00f", "g",
		"6A", "A6", "FF", "617A", "fF", "Ff",
		"6g", "g6", " 6", "6 ", "61 7a", "61 7a ", "61:7a0", "0x61", "x0", "+1", "-1", "1_", "61\n7", "61\n", "\n\n",
		"\x00\x00", "\x06\x01", "6\x00", "\xff\xff", "é", "٠", "６", "ａａ",
	} {
		wantUnhex(t, s, "", api.ErrForm)
	}
}

// TestP2_4PutIsReadBack lays numbers of all sizes behind one another, and reads them back, whatever stands ahead.
func TestP2_4PutIsReadBack(t *testing.T) {
	values := []uint64{0, 1, 0x7f, 0x80, 0xff, 0x0102030405060708, 0xf8f7f6f5f4f3f2f1, math.MaxUint64}
	for _, ahead := range []string{"", "\x00", "abc", some(40)} {
		b := ahead
		for size := 1; size <= 8; size++ {
			for _, v := range values {
				next, err := wire.Put(b, v>>(64-8*size), size)
				if err != api.OK {
					t.Fatalf("Put of %d bytes: %d", size, err)
				}
				b = next
			}
		}
		r := wire.New(b)
		wantTake(t, r, len(ahead), ahead, true)
		for size := 1; size <= 8; size++ {
			for _, v := range values {
				wantNumber(t, r, size, v>>(64-8*size), true)
			}
		}
		wantLeft(t, r, 0)
	}
}

// TestP2_4AllBytesAreTold takes bytes by calls of all kinds, wrong ones between: what they answer is all that there was.
func TestP2_4AllBytesAreTold(t *testing.T) {
	for start := range 40 {
		s := some(100 + start)
		r, told := wire.New(s), ""
		for i := range start {
			n := (start + 5*i) % 12
			if i%2 == 0 {
				b, _ := r.Take(n)
				told += b
			} else if v, ok := r.Number(n); ok {
				told = laid(t, told, v, n)
			}
			r.Take(1000)
			r.Number(-n)
			r.Number(9 + n)
			wantLeft(t, r, len(s)-len(told))
		}
		if told += r.Rest(); told != s {
			t.Errorf("%d calls told %q, not %q", start, told, s)
		}
	}
}

func laid(t *testing.T, b string, v uint64, size int) string {
	t.Helper()
	b, err := wire.Put(b, v, size)
	if err != api.OK {
		t.Fatalf("Put of %d bytes: %d", size, err)
	}
	return b
}

func TestP2_4UnhexOfHex(t *testing.T) {
	for n := range 300 {
		wantUnhex(t, wire.Hex(some(n)), some(n), api.OK)
	}
}
