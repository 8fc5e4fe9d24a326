package draw_test

import (
	"math"
	"math/big"
	"testing"

	"herald/api"
	"herald/draw"
)

// most is how many draws may wait, as the document writes it.
const most = 64

// above are bases about all edges, those among them at which a base times a part no longer goes into an int.
var above = []int{1, 2, 3, 4, 5, 7, 8, 9, 13, 26, 49, 50, 51, 74, 75, 76, 90, 99, 100, 101, 133, 134, 199, 200, 201, 255, 256, 999, 1000, 1<<16 - 1, 1 << 16, math.MaxInt32 / 100, math.MaxInt32/100 + 1, math.MaxInt32/75 + 1, math.MaxInt32 - 1, math.MaxInt32, 1 << 31, 1<<32 - 1, 1 << 32, 1<<32 + 1, 1<<53 - 1, 1<<53 + 1, math.MaxInt/100 - 1, math.MaxInt / 100, math.MaxInt/100 + 1, math.MaxInt/99 + 1, math.MaxInt / 75, math.MaxInt/75 + 1, math.MaxInt / 2, math.MaxInt/2 + 1, math.MaxInt - 100, math.MaxInt - 99, math.MaxInt - 8, math.MaxInt - 7, math.MaxInt - 1, math.MaxInt}

// notAbove are bases that are not above 0; the lowest bits of some are those of bases that are.
var notAbove = []int{0, -1, -2, -7, -75, -99, -100, -101, -256, -1 << 16, math.MinInt32, math.MinInt32 - 1, -1<<32 + 100, -1 << 32, -1<<62 + 1, math.MinInt + 100, math.MinInt + 1, math.MinInt}

// numbers are draws about all edges: those of the choice, and of the sizes of numbers.
var numbers = []uint32{0, 1, 2, 12, 13, 24, 25, 26, 27, 50, 51, 52, 53, 77, 78, 99, 100, 101, 127, 128, 255, 256, 257, 1<<15 - 1, 1 << 15, 1<<16 - 1, 1 << 16, 1<<16 + 1, 1<<31 - 1, 1 << 31, 1<<31 + 1, 1<<31 + 26, math.MaxUint32 - 26, math.MaxUint32 - 25, math.MaxUint32 - 1, math.MaxUint32}

// reckon is Of, by numbers of any size.
func reckon(base int, n uint32) int {
	if base <= 0 {
		return 0
	}
	x := new(big.Int).Mul(big.NewInt(int64(base)), big.NewInt(75+int64(n)%26))
	x.Div(x, big.NewInt(100))
	if x.Sign() == 0 {
		return 1
	}
	return int(x.Int64())
}

// model has the draws that wait in a list, the first one first.
type model []uint32

func (m *model) push(n uint32) api.Errno {
	if len(*m) == most {
		return api.ErrFull
	}
	*m = append(*m, n)
	return api.OK
}

func (m *model) jitter(base int) int {
	if base <= 0 {
		return 0
	}
	if len(*m) == 0 {
		return base
	}
	n := (*m)[0]
	*m = (*m)[1:]
	return reckon(base, n)
}

// some are n draws, each choice among them, if there are so many, and no two beside one another alike.
func some(n int) []uint32 {
	var l []uint32
	for i := range n {
		l = append(l, uint32(i)*7+uint32(i)<<16)
	}
	return l
}

// waiting are draws of which these wait, when turned of them have come and gone.
func waiting(t *testing.T, turned int, l []uint32) *draw.Draws {
	t.Helper()
	d := draw.New()
	for i := range turned {
		wantPush(t, d, uint32(i*11+5), api.OK)
		wantJitter(t, d, 100, 75+(i*11+5)%26)
	}
	pushAll(t, d, l)
	return d
}

func pushAll(t *testing.T, d *draw.Draws, l []uint32) {
	t.Helper()
	for _, n := range l {
		wantPush(t, d, n, api.OK)
	}
}

func wantOf(t *testing.T, base int, n uint32, want int) {
	t.Helper()
	if is := draw.Of(base, n); is != want {
		t.Errorf("Of(%d, %d): %d, want %d", base, n, is, want)
	}
}

func wantPush(t *testing.T, d *draw.Draws, n uint32, want api.Errno) {
	t.Helper()
	if e := d.Push(n); e != want {
		t.Errorf("Push(%d): %d, want %d", n, e, want)
	}
}

func wantJitter(t *testing.T, d *draw.Draws, base, want int) {
	t.Helper()
	if is := d.Jitter(base); is != want {
		t.Errorf("Jitter(%d): %d, want %d", base, is, want)
	}
}

func wantLeft(t *testing.T, d *draw.Draws, want int) {
	t.Helper()
	if n := d.Left(); n != want {
		t.Errorf("Left: %d, want %d", n, want)
	}
}

// wantUsed uses all draws up, which must be these, one by one.
func wantUsed(t *testing.T, d *draw.Draws, want []uint32) {
	t.Helper()
	for i, n := range want {
		wantLeft(t, d, len(want)-i)
		wantJitter(t, d, 100, reckon(100, n))
	}
	wantLeft(t, d, 0)
	wantJitter(t, d, 100, 100)
	wantJitter(t, d, 90, 90)
}

// wantAll holds whatever can be asked of draws against those that must wait, and leaves them as they are.
func wantAll(t *testing.T, d *draw.Draws, want []uint32) {
	t.Helper()
	wantLeft(t, d, len(want))
	c := d.Copy()
	if c == nil || c == d {
		t.Fatal("no copy of its own")
	}
	wantUsed(t, c, want)
	wantLeft(t, d, len(want))
}
