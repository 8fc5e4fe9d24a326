package nlri_test

import (
	"math"
	"slices"
	"testing"

	"herald/api"
	"herald/nlri"
)

// v4 and the like lay a told prefix by hand.
func v4(addr string, n int, id uint32) api.Nlri {
	return api.Nlri{Prefix: api.Prefix{Fam: api.V4, Addr: addr, Len: n}, Id: id}
}

func l4(addr string, n int, id, label uint32) api.Nlri {
	return api.Nlri{Prefix: api.Prefix{Fam: api.L4, Addr: addr, Len: n}, Id: id, Label: label}
}

func vpn4(rd uint64, addr string, n int, id, label uint32) api.Nlri {
	return api.Nlri{Prefix: api.Prefix{Fam: api.Vpn4, RD: rd, Addr: addr, Len: n}, Id: id, Label: label}
}

const ten = "\x0a\x00\x00\x00"

func TestP7_1Check(t *testing.T) {
	for _, fam := range fams {
		for _, n := range pool(fam, true) {
			if err := nlri.Check(n); err != api.OK {
				t.Errorf("Check(%s) = %d", brief(n), err)
			}
		}
	}
	for _, n := range wrong() {
		if err := nlri.Check(n); err != api.ErrArg {
			t.Errorf("Check(%s) = %d", brief(n), err)
		}
	}
	for _, n := range odd() {
		want := api.ErrArg
		if mayBe(n) {
			want = api.OK
		}
		if err := nlri.Check(n); err != want {
			t.Errorf("Check(%s) = %d, not %d", brief(n), err, want)
		}
	}
}

// TestP7_1CheckLabel: just the families with labels have one above 0, and none above the most that may be.
func TestP7_1CheckLabel(t *testing.T) {
	for _, fam := range fams {
		for _, label := range []uint32{0, 1, 15, 16, api.MaxLabel - 1, api.MaxLabel, api.MaxLabel + 1, 1 << 24, math.MaxUint32} {
			for _, id := range ids {
				n := api.Nlri{Prefix: api.Prefix{Fam: fam, Addr: padded("", families[fam].size)}, Id: id, Label: label}
				want := api.ErrArg
				if label == 0 || label <= api.MaxLabel && fam >= api.L4 {
					want = api.OK
				}
				if err := nlri.Check(n); err != want {
					t.Errorf("Check(%s) = %d, not %d", brief(n), err, want)
				}
			}
		}
	}
}

// TestP7_1Cmp: by Prefix, Id, Label, of any two.
func TestP7_1Cmp(t *testing.T) {
	rising := []api.Nlri{
		{Prefix: api.Prefix{Fam: math.MinInt, RD: 9, Addr: "z", Len: 9}, Id: 9, Label: 9},
		{Prefix: api.Prefix{Fam: -1, RD: 9, Addr: "z", Len: 9}, Id: 9, Label: 9},
		{},
		{Label: 1},
		{Label: math.MaxUint32},
		{Id: 1},
		{Id: 1, Label: 1},
		{Id: math.MaxUint32},
		{Prefix: api.Prefix{Len: 1}},
		{Prefix: api.Prefix{Addr: "a", Len: -1}},
		{Prefix: api.Prefix{Addr: "a"}},
		{Prefix: api.Prefix{RD: 1}},
		v4("", 0, 0),
		v4(ten, math.MinInt, 0),
		v4(ten, -1, 0),
		v4(ten, 7, 5),
		v4(ten, 8, 0),
		v4(ten, 8, 1),
		v4(ten, 8, 2),
		v4(ten, 8, 1<<31),
		v4(ten, 8, math.MaxUint32),
		v4(ten, 9, 0),
		v4("\x0b\x00\x00\x00", 8, 0),
		v4("\x80\x00\x00\x00", 1, 0),
		l4(ten, 8, 0, 0),
		l4(ten, 8, 0, 1),
		l4(ten, 8, 0, 1<<20-1),
		l4(ten, 8, 0, 1<<31),
		l4(ten, 8, 0, math.MaxUint32),
		l4(ten, 8, 1, 0),
		l4(ten, 8, 1, 5),
		l4(ten, 8, 1, 6),
		l4(ten, 9, 0, 0),
		vpn4(0, "\xff\xff\xff\xff", 32, 9, 9),
		vpn4(7, ten, 8, 0, 9),
		vpn4(7, ten, 8, 1, 8),
		vpn4(8, "\x00\x00\x00\x00", 0, 0, 0),
		vpn4(1<<63, ten, 8, 0, 0),
		vpn4(math.MaxUint64, ten, 8, 0, 0),
		{Prefix: api.Prefix{Fam: math.MaxInt}},
	}
	for i, a := range rising {
		for k, b := range rising {
			want := 0
			if i < k {
				want = -1
			}
			if i > k {
				want = 1
			}
			if got := nlri.Cmp(a, b); got != want {
				t.Errorf("Cmp(%s, %s) = %d, not %d", brief(a), brief(b), got, want)
			}
		}
	}
}

func TestP7_1CmpModel(t *testing.T) {
	var all []api.Nlri
	for _, fam := range fams {
		l := pool(fam, true)
		all = append(all, l[:20]...)
		all = append(all, mixed(l)[:40]...)
	}
	all = append(all, mixed(odd())[:60]...)
	for _, a := range all {
		for _, b := range all {
			if got, want := nlri.Cmp(a, b), order(a, b); got != want {
				t.Errorf("Cmp(%s, %s) = %d, not %d", brief(a), brief(b), got, want)
			}
		}
	}
}

func TestP7_1SizeOfEach(t *testing.T) {
	for _, fam := range fams {
		for _, n := range pool(fam, true) {
			for _, add := range []bool{false, true} {
				if got, err := nlri.Size(n, add); got != len(laid(n, add)) || err != api.OK {
					t.Errorf("Size(%s, %t) = %d, %d, not %d", brief(n), add, got, err, len(laid(n, add)))
				}
			}
		}
	}
}

// TestP7_1SizeOfEachLen: the bytes of each length of each family, reckoned by hand.
func TestP7_1SizeOfEachLen(t *testing.T) {
	ahead := map[int]int{api.V4: 1, api.V6: 1, api.L4: 4, api.Vpn4: 12, api.Vpn6: 12}
	for _, fam := range fams {
		size := families[fam].size
		for n := 0; n <= 8*size; n++ {
			told := api.Nlri{Prefix: api.Prefix{Fam: fam, Addr: padded("", size), Len: n}}
			want := ahead[fam] + n/8
			if n%8 != 0 {
				want++
			}
			if got, err := nlri.Size(told, false); got != want || err != api.OK {
				t.Errorf("family %d, Len %d: %d, %d, not %d", fam, n, got, err, want)
			}
			if got, err := nlri.Size(told, true); got != want+4 || err != api.OK {
				t.Errorf("family %d, Len %d, with an id: %d, %d, not %d", fam, n, got, err, want+4)
			}
		}
	}
}

func TestP7_1SizeOfWrong(t *testing.T) {
	for _, n := range wrong() {
		for _, add := range []bool{false, true} {
			if got, err := nlri.Size(n, add); got != 0 || err != api.ErrArg {
				t.Errorf("Size(%s, %t) = %d, %d", brief(n), add, got, err)
			}
		}
	}
	// An Id has no say in whether it may be, and is told just if ids are.
	if got, err := nlri.Size(v4(ten, 8, 5), false); got != 2 || err != api.OK {
		t.Errorf("Size with an Id, without ids: %d, %d", got, err)
	}
}

func wantWithdrawn(t *testing.T, l []api.Nlri) {
	t.Helper()
	if got, want := nlri.Withdrawn(l), withdrawn(l); !slices.Equal(got, want) {
		t.Errorf("Withdrawn(%s) = %s, not %s", brief(l), brief(got), brief(want))
	}
}

func TestP7_4Examples(t *testing.T) {
	for _, l := range [][]api.Nlri{nil, {}} {
		if got := nlri.Withdrawn(l); len(got) != 0 {
			t.Errorf("Withdrawn of nothing: %s", brief(got))
		}
	}
	for _, c := range []struct{ of, want []api.Nlri }{
		{[]api.Nlri{l4(ten, 8, 0, 9), l4("\x09\x00\x00\x00", 8, 0, 7), l4(ten, 8, 0, 8)}, []api.Nlri{l4("\x09\x00\x00\x00", 8, 0, 0), l4(ten, 8, 0, 0)}},
		{[]api.Nlri{l4(ten, 8, 2, 1), l4(ten, 8, 1, 2), l4(ten, 8, 2, 3), l4(ten, 8, 1, 0)}, []api.Nlri{l4(ten, 8, 1, 0), l4(ten, 8, 2, 0)}},
		{[]api.Nlri{v4(ten, 8, 1)}, []api.Nlri{v4(ten, 8, 1)}},
		{[]api.Nlri{vpn4(2, ten, 8, 0, 5), vpn4(1, ten, 8, 0, 5)}, []api.Nlri{vpn4(1, ten, 8, 0, 0), vpn4(2, ten, 8, 0, 0)}},
		// Whatever they are: none of these may be.
		{[]api.Nlri{{Label: 7}, {Label: math.MaxUint32}, {Prefix: api.Prefix{Fam: -1, Len: -1}, Id: 3, Label: 1}}, []api.Nlri{{Prefix: api.Prefix{Fam: -1, Len: -1}, Id: 3}, {}}},
	} {
		if got := nlri.Withdrawn(c.of); !slices.Equal(got, c.want) {
			t.Errorf("Withdrawn(%s) = %s, not %s", brief(c.of), brief(got), brief(c.want))
		}
	}
}

func TestP7_4Withdrawn(t *testing.T) {
	var all []api.Nlri
	for _, fam := range fams {
		l := pool(fam, true)
		wantWithdrawn(t, l)
		wantWithdrawn(t, mixed(l))
		wantWithdrawn(t, slices.Repeat(l, 3))
		for _, n := range l {
			wantWithdrawn(t, []api.Nlri{n})
			wantWithdrawn(t, []api.Nlri{n, n, n})
		}
		all = append(all, l...)
	}
	wantWithdrawn(t, mixed(all))
	wantWithdrawn(t, wrong())
	wantWithdrawn(t, mixed(odd()))
}

// TestP7_4Lists: all lists of up to five of some that are unlike in their Prefix, Id, Label alone.
func TestP7_4Lists(t *testing.T) {
	of := []api.Nlri{l4(ten, 8, 0, 0), l4(ten, 8, 0, 16), l4(ten, 8, 1, 16), l4(ten, 9, 0, 17), l4(ten, 8, 1, 15)}
	all := [][]api.Nlri{nil}
	for from := 0; from < len(all) && len(all[from]) < 5; from++ {
		for _, n := range of {
			all = append(all, append(slices.Clone(all[from]), n))
		}
	}
	for _, l := range all {
		wantWithdrawn(t, l)
	}
}

// TestP7_4Again: what is withdrawn is so already.
func TestP7_4Again(t *testing.T) {
	for _, fam := range fams {
		once := nlri.Withdrawn(pool(fam, true))
		if again := nlri.Withdrawn(once); !slices.Equal(once, again) {
			t.Errorf("family %d: %s, then %s", fam, brief(once), brief(again))
		}
	}
}

// TestR5Lists: what is handed in, and the room behind it, stays as it is; what is answered is the caller's to change.
func TestR5Lists(t *testing.T) {
	other := v4("\xff\xff\xff\xff", 32, 77)
	room := []api.Nlri{l4(ten, 9, 0, 9), l4(ten, 8, 0, 7), l4(ten, 8, 0, 8), other, other}
	was := slices.Clone(room)
	l := room[:3]
	first := nlri.Withdrawn(l)
	want := slices.Clone(first)
	for i := range first {
		first[i] = other
	}
	first = append(first[:0], other, other, other, other)
	if !slices.Equal(room, was) {
		t.Errorf("Withdrawn changed %s into %s", brief(was), brief(room))
	}
	second := nlri.Withdrawn(l)
	room[0], room[1], room[2] = other, other, other
	if !slices.Equal(second, want) {
		t.Errorf("Withdrawn, asked again: %s, not %s", brief(second), brief(want))
	}
	room = slices.Clone(was)
	if s, err := nlri.Encode(room[:3], api.L4, false); err != api.OK || len(s) != 16 || !slices.Equal(room, was) {
		t.Errorf("Encode: %q, %d, of what is now %s", s, err, brief(room))
	}
}

// TestR5Read: two lists of the same bytes do not share.
func TestR5Read(t *testing.T) {
	for _, fam := range fams {
		l := pool(fam, true)
		s, _ := encoded(l, fam, true)
		a, _ := nlri.Decode(s, fam, true)
		b, _ := nlri.Decode(s, fam, true)
		for i := range a {
			a[i] = api.Nlri{}
		}
		a = append(a[:0], l[1:]...)
		if !slices.Equal(b, l) {
			t.Errorf("family %d: one list changed with another: %s", fam, brief(b))
		}
	}
}
