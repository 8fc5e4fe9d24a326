package prim_test

import (
	"cmp"
	"math"
	"strconv"
	"strings"
	"testing"

	"herald/api"
	"herald/prim"
)

// v4, v6 and the like lay a prefix by hand, so that no test hangs on Parse alone.
func v4(addr string, n int) api.Prefix { return api.Prefix{Fam: api.V4, Addr: addr, Len: n} }
func v6(addr string, n int) api.Prefix { return api.Prefix{Fam: api.V6, Addr: addr, Len: n} }

func vpn4(rd uint64, addr string, n int) api.Prefix {
	return api.Prefix{Fam: api.Vpn4, RD: rd, Addr: addr, Len: n}
}

// long is an address of 16 bytes with these ones ahead.
func long(ahead string) string { return ahead + strings.Repeat("\x00", 16-len(ahead)) }

var sizes = map[int]int{api.V4: 4, api.V6: 16, api.L4: 4, api.Vpn4: 4, api.Vpn6: 16}

var numbers = []int{math.MinInt, math.MinInt + 1, -1 << 32, -129, -128, -33, -32, -8, -1, 0, 1, 4, 7, 8, 9, 31, 32, 33, 127, 128, 129, 255, 256, 264, 1 << 31, 1 << 32, 1 << 61, 1<<61 + 1, 1 << 62, math.MaxInt - 1, math.MaxInt}

// bitText is the model: an address as a text of its bits.
func bitText(addr string) string {
	var b strings.Builder
	for i := 0; i < len(addr); i++ {
		t := strconv.FormatUint(uint64(addr[i]), 2)
		b.WriteString(strings.Repeat("0", 8-len(t)) + t)
	}
	return b.String()
}

// mayBe is the model of which prefixes may be.
func mayBe(p api.Prefix) bool {
	size, known := sizes[p.Fam]
	if !known || len(p.Addr) != size || p.Len < 0 || p.Len > 8*size {
		return false
	}
	if p.RD != 0 && p.Fam != api.Vpn4 && p.Fam != api.Vpn6 {
		return false
	}
	return !strings.Contains(bitText(p.Addr)[p.Len:], "1")
}

// covers is the model of covering.
func covers(a, b api.Prefix) bool {
	if !mayBe(a) || !mayBe(b) || a.Fam != b.Fam || a.RD != b.RD || a.Len > b.Len {
		return false
	}
	return bitText(a.Addr)[:a.Len] == bitText(b.Addr)[:a.Len]
}

// pool has prefixes that may be, of each family, with and without a distinguisher, of all kinds of lengths.
func pool() []api.Prefix {
	var l []api.Prefix
	for fam := api.V4; fam <= api.Families; fam++ {
		size := sizes[fam]
		rds := []uint64{0}
		if fam == api.Vpn4 || fam == api.Vpn6 {
			rds = []uint64{0, 1, 7, 1 << 63, math.MaxUint64}
		}
		for _, rd := range rds {
			add := func(addr string, lens ...int) {
				for _, n := range lens {
					l = append(l, api.Prefix{Fam: fam, RD: rd, Addr: addr + strings.Repeat("\x00", size-len(addr)), Len: n})
				}
			}
			add("", 0, 1, 7, 8, 9, 8*size-1, 8*size)
			add("\x80", 1, 2, 8, 16)
			add("\x0a", 7, 8, 9, 8*size)
			add("\x0a\x01", 16, 17)
			add("\x0a\x80", 9, 16)
			add("\xff\xff", 16, 24)
			add(strings.Repeat("\xff", size-1)+"\xfe", 8*size-1, 8*size)
			add(strings.Repeat("\xff", size), 8*size)
		}
	}
	return l
}

// odd has things of which most may not be.
func odd() []api.Prefix {
	var l []api.Prefix
	for _, fam := range []int{math.MinInt, -1, 0, 1, 2, 3, 4, 5, 6, math.MaxInt} {
		for _, rd := range []uint64{0, 1, math.MaxUint64} {
			for _, size := range []int{0, 1, 3, 4, 5, 15, 16, 17, 32} {
				for _, fill := range []string{"\x00", "\x01", "\x80", "\xff"} {
					addr := strings.Repeat(fill, size)
					for _, n := range []int{math.MinInt, -1, 0, 1, 8, 31, 32, 33, 127, 128, 129, 256, math.MaxInt} {
						l = append(l, api.Prefix{Fam: fam, RD: rd, Addr: addr, Len: n})
					}
				}
			}
		}
	}
	return l
}

// TestP1_1Size: bytes of each family's addresses, 0 of all other numbers.
func TestP1_1Size(t *testing.T) {
	for _, fam := range append(numbers, 2, 3, 5, 6) {
		if got := prim.Size(fam); got != sizes[fam] {
			t.Errorf("Size(%d) = %d, want %d", fam, got, sizes[fam])
		}
	}
}

// TestP1_1Check: just the prefixes that may be are OK.
func TestP1_1Check(t *testing.T) {
	for _, p := range pool() {
		if e := prim.Check(p); e != api.OK {
			t.Errorf("Check(%#v) = %d", p, e)
		}
	}
	for _, p := range odd() {
		want := api.ErrArg
		if mayBe(p) {
			want = api.OK
		}
		if e := prim.Check(p); e != want {
			t.Errorf("Check(%#v) = %d, want %d", p, e, want)
		}
	}
}

// TestP1_1CheckBits: each single bit, at each length, of each family: it may be just ahead of Len.
func TestP1_1CheckBits(t *testing.T) {
	for fam, size := range sizes {
		for bit := range 8 * size {
			b := make([]byte, size)
			b[bit/8] = 0x80 >> (bit % 8)
			for n := 0; n <= 8*size; n++ {
				want := api.ErrArg
				if bit < n {
					want = api.OK
				}
				if e := prim.Check(api.Prefix{Fam: fam, Addr: string(b), Len: n}); e != want {
					t.Errorf("family %d, bit %d, Len %d: %d, want %d", fam, bit, n, e, want)
				}
			}
		}
	}
}

// TestP1_1Bit: bits of addresses of any number of bytes; 0 where there is none.
func TestP1_1Bit(t *testing.T) {
	for _, addr := range []string{"", "\x80", "\x01\xff", "\x0a\x00\x00\x00", "\xff\xff\xff\xff", "\xff\xff\xff\xff\xff", long("\xc3\x3c\x01"), strings.Repeat("\xff", 40)} {
		bits := bitText(addr)
		for n := -20; n < 340; n++ {
			want := 0
			if n >= 0 && n < len(bits) {
				want = int(bits[n] - '0')
			}
			if got := prim.Bit(addr, n); got != want {
				t.Errorf("Bit(%x, %d) = %d, want %d", addr, n, got, want)
			}
		}
		for _, n := range []int{math.MinInt, -1 << 40, 1 << 31, 1 << 32, 1 << 35, 1 << 61, math.MaxInt} {
			if got := prim.Bit(addr, n); got != 0 {
				t.Errorf("Bit(%x, %d) = %d, want 0", addr, n, got)
			}
		}
	}
}

// wantCmp is the model of the order.
func wantCmp(a, b api.Prefix) int {
	switch {
	case a.Fam != b.Fam:
		return cmp.Compare(a.Fam, b.Fam)
	case a.RD != b.RD:
		return cmp.Compare(a.RD, b.RD)
	case a.Addr != b.Addr:
		return cmp.Compare(bitText(a.Addr), bitText(b.Addr))
	}
	return cmp.Compare(a.Len, b.Len)
}

// TestP1_2Cmp: by Fam, RD, Addr, Len, of any two.
func TestP1_2Cmp(t *testing.T) {
	rising := []api.Prefix{
		{Fam: math.MinInt, RD: 9, Addr: "z", Len: 9},
		{Fam: -1, RD: 9, Addr: "z", Len: 9},
		{},
		{RD: 1},
		v4("", -1),
		v4("", 40),
		v4("\x00\x00\x00\x00", 0),
		v4("\x00\x00\x00\x00", 1),
		v4("\x0a", 1000),
		v4("\x0a\x00\x00", 0),
		v4("\x0a\x00\x00\x00", math.MinInt),
		v4("\x0a\x00\x00\x00", 8),
		v4("\x0a\x00\x00\x00", 9),
		v4("\x0a\x00\x00\x00", math.MaxInt),
		v4("\x0a\x00\x00\x00\x00", 0),
		v4("\x0a\x01\x00\x00", 8),
		v4("\x7f\xff\xff\xff", 8),
		v4("\x80\x00\x00\x00", 0),
		v4("\xff\x00\x00\x00", 0),
		{Fam: api.V4, RD: 1},
		{Fam: api.V4, RD: 1 << 63},
		{Fam: api.V4, RD: math.MaxUint64},
		v6(long(""), 0),
		{Fam: api.L4, Addr: "\x00\x00\x00\x00"},
		vpn4(0, "\xff\x00\x00\x00", 32),
		vpn4(1, "\x00\x00\x00\x00", 0),
		vpn4(2, "\x00\x00\x00\x00", 0),
		{Fam: api.Vpn6},
		{Fam: math.MaxInt},
	}
	for i, a := range rising {
		for k, b := range rising {
			if got := prim.Cmp(a, b); got != cmp.Compare(i, k) {
				t.Errorf("Cmp(%#v, %#v) = %d", a, b, got)
			}
		}
	}
	l := pool()
	for _, a := range l {
		for _, b := range l {
			if got := prim.Cmp(a, b); got != wantCmp(a, b) {
				t.Errorf("Cmp(%#v, %#v) = %d", a, b, got)
			}
		}
	}
}

// TestP1_2Covers: as the model says, and nothing that may not be.
func TestP1_2Covers(t *testing.T) {
	l := pool()
	for _, a := range l {
		for _, b := range l {
			if got := prim.Covers(a, b); got != covers(a, b) {
				t.Errorf("Covers(%#v, %#v) = %#v", a, b, got)
			}
		}
	}
	for _, p := range odd() {
		if got := prim.Covers(p, p); got != mayBe(p) {
			t.Errorf("Covers(%#v, itself) = %#v", p, got)
		}
	}
}

// TestP1_2CoversWrong: one that may not be is covered by none, and covers none, on either side.
func TestP1_2CoversWrong(t *testing.T) {
	good := v4("\x0a\x01\x00\x00", 16)
	all := v4("\x00\x00\x00\x00", 0)
	for _, bad := range []api.Prefix{
		{},
		v4("\x0a\x00\x00\x01", 8),
		v4("\x0a\x01\x00\x00", 8),
		v4("\x0a\x01\x00", 16),
		v4("\x0a\x01\x00\x00\x00", 16),
		v4("\x0a\x01\x00\x00", 33),
		v4("\x00\x00\x00\x00", -1),
		v4("\x0a\x01\x00\x00", math.MaxInt),
		v4("\x0a\x01\x00\x00", math.MinInt),
		{Fam: api.V4, RD: 7, Addr: "\x0a\x01\x00\x00", Len: 16},
		{Fam: 6, Addr: "\x0a\x01\x00\x00", Len: 16},
	} {
		if prim.Covers(bad, good) || prim.Covers(good, bad) || prim.Covers(all, bad) || prim.Covers(bad, all) || prim.Covers(bad, bad) {
			t.Errorf("%#v covers, or is covered", bad)
		}
	}
	if prim.Covers(vpn4(1, "\x00\x00\x00\x00", 0), vpn4(2, "\x0a\x00\x00\x00", 8)) {
		t.Error("another RD is covered")
	}
	if prim.Covers(v4("\x0a\x00\x00\x00", 16), v4("\x0a\x00\x00\x00", 8)) {
		t.Error("a shorter one is covered")
	}
}

// TestP1_3Cut: each length from 0 to Len; ErrArg and nothing else beyond, and of what may not be.
func TestP1_3Cut(t *testing.T) {
	for _, p := range pool() {
		bits := bitText(p.Addr)
		for n := 0; n <= p.Len; n++ {
			got, e := prim.Cut(p, n)
			want := bits[:n] + strings.Repeat("0", len(bits)-n)
			if e != api.OK || got.Fam != p.Fam || got.RD != p.RD || got.Len != n || bitText(got.Addr) != want {
				t.Errorf("Cut(%#v, %d) = %#v, %d", p, n, got, e)
			}
		}
		for _, n := range append(numbers, p.Len+1) {
			if n >= 0 && n <= p.Len {
				continue
			}
			if got, e := prim.Cut(p, n); e != api.ErrArg || got != (api.Prefix{}) {
				t.Errorf("Cut(%#v, %d) = %#v, %d", p, n, got, e)
			}
		}
	}
	for _, p := range odd() {
		if mayBe(p) {
			continue
		}
		for _, n := range []int{math.MinInt, -1, 0, 1, p.Len, 32, math.MaxInt} {
			if got, e := prim.Cut(p, n); e != api.ErrArg || got != (api.Prefix{}) {
				t.Errorf("Cut(%#v, %d) = %#v, %d", p, n, got, e)
			}
		}
	}
}

// TestP1_6Order: Cmp is an order, of things that may not be, too.
func TestP1_6Order(t *testing.T) {
	var l []api.Prefix
	for i, p := range odd() {
		if i%61 == 0 {
			l = append(l, p)
		}
	}
	for i, p := range pool() {
		if i%3 == 0 {
			l = append(l, p)
		}
	}
	for _, a := range l {
		for _, b := range l {
			ab := prim.Cmp(a, b)
			if ab < -1 || ab > 1 || ab != -prim.Cmp(b, a) || (ab == 0) != (a == b) {
				t.Fatalf("Cmp(%#v, %#v) = %d", a, b, ab)
			}
			if ab >= 0 {
				continue
			}
			for _, c := range l {
				if prim.Cmp(b, c) < 0 && prim.Cmp(a, c) >= 0 {
					t.Fatalf("%#v, %#v, %#v are in no order", a, b, c)
				}
			}
		}
	}
}

// TestP1_6Covering: it is an order besides, and what covers a prefix is what Cut tells.
func TestP1_6Covering(t *testing.T) {
	l := pool()
	for _, b := range l {
		var above []api.Prefix
		for _, a := range l {
			if !prim.Covers(a, b) {
				continue
			}
			above = append(above, a)
			if prim.Cmp(a, b) > 0 {
				t.Errorf("%#v covers %#v and stands behind it", a, b)
			}
			if prim.Covers(b, a) != (a == b) {
				t.Errorf("%#v and %#v cover each other", a, b)
			}
			if cut, e := prim.Cut(b, a.Len); e != api.OK || cut != a {
				t.Errorf("%#v covers %#v, but is no cut of it", a, b)
			}
			for _, c := range l {
				if prim.Covers(b, c) && !prim.Covers(a, c) {
					t.Errorf("%#v covers %#v, but not %#v", a, b, c)
				}
			}
		}
		if !prim.Covers(b, b) {
			t.Errorf("%#v does not cover itself", b)
		}
		for _, x := range above {
			for _, y := range above {
				if !prim.Covers(x, y) && !prim.Covers(y, x) {
					t.Errorf("%#v and %#v cover %#v, but neither the other one", x, y, b)
				}
			}
		}
		for n := 0; n <= b.Len; n++ {
			if cut, e := prim.Cut(b, n); e != api.OK || !prim.Covers(cut, b) {
				t.Errorf("the cut %d of %#v does not cover it", n, b)
			}
		}
	}
}

// TestExamplesOfPrefixes: the chapter's, of covering, cutting and bits.
func TestExamplesOfPrefixes(t *testing.T) {
	ten, tenOne := v4("\x0a\x00\x00\x00", 8), v4("\x0a\x01\x00\x00", 16)
	if !prim.Covers(ten, tenOne) || prim.Covers(tenOne, ten) {
		t.Error("10.0.0.0/8 and 10.1.0.0/16")
	}
	if prim.Covers(v4("\x00\x00\x00\x00", 0), api.Prefix{Fam: api.L4, Addr: "\x00\x00\x00\x00"}) {
		t.Error("another family is covered")
	}
	if got, e := prim.Cut(tenOne, 8); e != api.OK || got != ten {
		t.Errorf("Cut 8: %#v, %d", got, e)
	}
	if got, e := prim.Cut(tenOne, 17); e != api.ErrArg || got != (api.Prefix{}) {
		t.Errorf("Cut 17: %#v, %d", got, e)
	}
	if prim.Bit(ten.Addr, 4) != 1 || prim.Bit(ten.Addr, 32) != 0 {
		t.Error("Bit")
	}
	if !prim.Covers(vpn4(7, "\x0a\x00\x00\x00", 8), vpn4(7, "\x0a\x01\x00\x00", 16)) {
		t.Error("vpn4 7 10.0.0.0/8 does not cover vpn4 7 10.1.0.0/16")
	}
}
