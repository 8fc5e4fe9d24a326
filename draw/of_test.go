package draw_test

import (
	"math"
	"testing"

	"herald/draw"
)

func TestP14_1Examples(t *testing.T) {
	wantOf(t, 100, 0, 75)
	wantOf(t, 100, 25, 100)
	wantOf(t, 100, 26, 75)
	wantOf(t, 90, 10, 76)
	wantOf(t, 1, 0, 1)
	wantOf(t, 0, 5, 0)
	wantOf(t, -7, 5, 0)
}

// Answers that are reckoned by hand.
func TestP14_1ByHand(t *testing.T) {
	wantOf(t, 100, 24, 99)
	wantOf(t, 100, 51, 100)
	wantOf(t, 100, 52, 75)
	wantOf(t, 100, math.MaxUint32, 75+21)
	wantOf(t, 2, 0, 1)
	wantOf(t, 2, 24, 1)
	wantOf(t, 2, 25, 2)
	wantOf(t, 3, 0, 2)
	wantOf(t, 101, 24, 99)
	wantOf(t, 199, 0, 149)
	wantOf(t, 65535, 13, 57670)
	wantOf(t, 1<<63-1, 25, 1<<63-1)
	wantOf(t, 1<<63-1, 0, 6917529027641081855)
	wantOf(t, 1<<63-1, 26, 6917529027641081855)
	wantOf(t, 1<<63-1, 1, 7009762748009629613)
	wantOf(t, 1<<63-1, 24, 9131138316486228048)
	wantOf(t, 1<<63-1, math.MaxUint32, 8854437155380584774)
}

func TestP14_1NotAbove(t *testing.T) {
	for _, base := range notAbove {
		for _, n := range numbers {
			wantOf(t, base, n, 0)
		}
	}
	for base := -1000; base <= 0; base++ {
		for n := range uint32(26) {
			wantOf(t, base, n, 0)
		}
	}
}

func TestP14_1Edges(t *testing.T) {
	for _, base := range above {
		for _, n := range numbers {
			wantOf(t, base, n, reckon(base, n))
		}
	}
}

// All small bases, and all near the greatest one, with each choice.
func TestP14_1EachBase(t *testing.T) {
	for i := range 1000 {
		for n := range uint32(27) {
			for _, base := range []int{i, 1<<32 - 500 + i, math.MaxInt - i} {
				wantOf(t, base, n, reckon(base, n))
			}
		}
	}
}

// The least answer is 1, of the base 1 with every draw.
func TestP14_1One(t *testing.T) {
	for _, n := range append(numbers, some(100)...) {
		wantOf(t, 1, n, 1)
	}
}

// Draws that are 26 apart choose the same part, near all edges of numbers.
func TestP14_1Modulo(t *testing.T) {
	for _, from := range []uint32{0, 1<<8 - 30, 1<<16 - 30, 1<<31 - 30, math.MaxUint32 - 100} {
		for i := range uint32(60) {
			n := from + i
			part := 75 + int(int64(n)%26)
			wantOf(t, 100, n, part)
			wantOf(t, 100, n+26, part)
			wantOf(t, 2600, n, 26*part)
		}
	}
}

// Of has no memory.
func TestP14_1Again(t *testing.T) {
	for range 3 {
		for _, n := range numbers {
			wantOf(t, 100, n, 75+int(int64(n)%26))
			wantOf(t, math.MaxInt, n, reckon(math.MaxInt, n))
			wantOf(t, -1, n, 0)
		}
	}
}

// Of lies from three quarters of base to base, and both are met.
func TestP14_4Between(t *testing.T) {
	bases := above
	for i := range 500 {
		bases = append(bases, i+1, math.MaxInt-i)
	}
	for _, base := range bases {
		low := max(base/4*3+base%4*3/4, 1)
		for _, n := range append(numbers, some(26)...) {
			if is := draw.Of(base, n); is < low || is > base {
				t.Errorf("Of(%d, %d): %d, not from %d on", base, n, is, low)
			}
		}
		wantOf(t, base, 0, low)
		wantOf(t, base, 25, base)
	}
}

// A greater choice never makes an answer less.
func TestP14_4Rising(t *testing.T) {
	for _, base := range above {
		for n := range uint32(25) {
			if draw.Of(base, n) > draw.Of(base, n+1) {
				t.Errorf("base %d: %d is above what is behind it", base, n)
			}
		}
	}
}
