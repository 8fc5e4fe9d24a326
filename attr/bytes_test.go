package attr_test

import (
	"slices"
	"strings"
	"testing"

	"herald/api"
	"herald/attr"
)

func wantRaws(t *testing.T, what string, got, want []api.Raw) {
	t.Helper()
	if !slices.Equal(got, want) {
		t.Errorf("%s: %s, not %s", what, brief(got), brief(want))
	}
}

func wantSplit(t *testing.T, s string) {
	t.Helper()
	want, wantIs := split(s)
	got, is := attr.Split(s)
	if is != wantIs || !slices.Equal(got, want) {
		t.Errorf("Split(%.200q): %s, %t, not %s, %t", s, brief(got), is, brief(want), wantIs)
	}
}

func TestP6_2Examples(t *testing.T) {
	l, e := attr.Write(api.Attrs{Origin: 1, Path: path(seq(1)), Next: "\x0a\x00\x00\x01"}, true)
	wantRaws(t, "Write", l, []api.Raw{
		{Flags: 0x40, Type: 1, Value: "\x01"}, {Flags: 0x40, Type: 2, Value: "\x02\x01\x00\x00\x00\x01"}, {Flags: 0x40, Type: 3, Value: "\x0a\x00\x00\x01"},
	})
	if e != api.OK {
		t.Errorf("Write: %d", e)
	}
}

func TestP6_2Write(t *testing.T) {
	for _, four := range []bool{true, false} {
		for _, a := range pool() {
			l, e := attr.Write(a, four)
			wantRaws(t, "Write of "+brief(a), l, written(a, four))
			if e != api.OK {
				t.Errorf("Write(%s): %d", brief(a), e)
			}
		}
		for _, a := range wrong() {
			if l, e := attr.Write(a, four); e != api.ErrArg || len(l) != 0 {
				t.Errorf("Write(%s): %s, %d", brief(a), brief(l), e)
			}
		}
	}
}

// TestP6_2Nothing: ORIGIN and AS_PATH are there, whatever they hold.
func TestP6_2Nothing(t *testing.T) {
	for _, four := range []bool{true, false} {
		l, e := attr.Write(api.Attrs{}, four)
		wantRaws(t, "Write of nothing", l, []api.Raw{{Flags: 0x40, Type: 1, Value: "\x00"}, {Flags: 0x40, Type: 2}})
		if e != api.OK {
			t.Errorf("Write of nothing: %d", e)
		}
	}
}

// TestP6_2Fit lays the AS of an aggregator near the edge of two bytes.
func TestP6_2Fit(t *testing.T) {
	for as := uint32(65000); as < 66000; as++ {
		a := api.Attrs{Path: path(seq(as)), AggAS: as, AggId: 1}
		two := as
		if as > 65535 {
			two = 23456
		}
		l, _ := attr.Write(a, false)
		if want := be(uint64(two), 2); l[1].Value != "\x02\x01"+want || l[2].Value != want+"\x00\x00\x00\x01" {
			t.Errorf("AS %d, two: %q", as, l)
		}
		l, _ = attr.Write(a, true)
		if want := be(uint64(as), 4); l[1].Value != "\x02\x01"+want || l[2].Value != want+"\x00\x00\x00\x01" {
			t.Errorf("AS %d, four: %q", as, l)
		}
	}
}

func TestP6_3Examples(t *testing.T) {
	l := []api.Raw{
		{Flags: 0x40, Type: 1, Value: "\x01"}, {Flags: 0x40, Type: 2, Value: "\x02\x01\x00\x00\x00\x01"}, {Flags: 0x40, Type: 3, Value: "\x0a\x00\x00\x01"},
	}
	s, e := attr.Lay(l)
	if s != "\x40\x01\x01\x01"+"\x40\x02\x06\x02\x01\x00\x00\x00\x01"+"\x40\x03\x04\x0a\x00\x00\x01" || e != api.OK {
		t.Errorf("Lay: %q, %d", s, e)
	}
	long := strings.Repeat("x", 256)
	s, e = attr.Lay([]api.Raw{{Flags: 0x40, Type: 2, Value: long}})
	if s != "\x50\x02\x01\x00"+long || e != api.OK {
		t.Errorf("Lay of a long one: %q, %d", s, e)
	}
	m, is := attr.Split(s)
	wantRaws(t, "Split", m, []api.Raw{{Flags: 0x50, Type: 2, Value: long}})
	if !is {
		t.Error("Split: false")
	}
	for _, s := range []string{"\x40\x01\x01", "\x40\x01"} {
		if m, is := attr.Split(s); is || len(m) != 0 {
			t.Errorf("Split(%q): %q, %t", s, m, is)
		}
	}
	if m, is := attr.Split(""); !is || len(m) != 0 {
		t.Errorf("Split of nothing: %q, %t", m, is)
	}
	if s, e := attr.Lay(nil); s != "" || e != api.OK {
		t.Errorf("Lay of nothing: %q, %d", s, e)
	}
}

// TestP6_3Flags lays all Flags and Types, with values about the edge of one byte's length.
func TestP6_3Flags(t *testing.T) {
	for flags := range 256 {
		for _, n := range []int{0, 1, 4, 254, 255, 256, 257, 512} {
			l := []api.Raw{{Flags: uint8(flags), Type: uint8(flags * 7), Value: strings.Repeat("v", n)}, {Flags: 0x90, Type: 1}}
			s, e := attr.Lay(l)
			if want := laid(l); s != want || e != api.OK {
				t.Errorf("Flags %x, %d bytes: %.20q, %d, not %.20q", flags, n, s, e, want)
			}
			if long := s[0]&0x10 != 0; long != (n > 255) {
				t.Errorf("Flags %x, %d bytes: long %t", flags, n, long)
			}
		}
	}
}

// TestP6_3LayLimit lays bytes of up to 4077, by one attribute and by several.
func TestP6_3LayLimit(t *testing.T) {
	value := func(n int) api.Raw { return api.Raw{Flags: 0x40, Type: 2, Value: strings.Repeat("v", n)} }
	for _, x := range []struct {
		l    []api.Raw
		size int
	}{
		{[]api.Raw{value(4072)}, 4076},
		{[]api.Raw{value(4073)}, 4077},
		{[]api.Raw{value(4074)}, 4078},
		{[]api.Raw{value(4077)}, 4081},
		{[]api.Raw{value(65535)}, 65539},
		{[]api.Raw{value(65536)}, 65540},
		{[]api.Raw{value(1 << 20)}, 1<<20 + 4},
		{slices.Repeat([]api.Raw{value(0)}, 1359), 4077},
		{slices.Repeat([]api.Raw{value(0)}, 1360), 4080},
		{append(slices.Repeat([]api.Raw{value(0)}, 1358), value(1)), 4078},
		{append(slices.Repeat([]api.Raw{value(255)}, 15), value(204)), 4077},
		{append(slices.Repeat([]api.Raw{value(255)}, 15), value(205)), 4078},
		{append(slices.Repeat([]api.Raw{value(256)}, 15), value(174)), 4077},
		{append(slices.Repeat([]api.Raw{value(256)}, 15), value(175)), 4078},
		{[]api.Raw{value(3814), value(256)}, 4078},
		{[]api.Raw{value(3814), value(255)}, 4076},
		{[]api.Raw{value(5000), value(0)}, 5007},
		{[]api.Raw{value(0), value(5000)}, 5007},
		{slices.Repeat([]api.Raw{value(1 << 20)}, 5000), 5000 << 20},
	} {
		s, e := attr.Lay(x.l)
		if x.size > 4077 && (e != api.ErrLong || s != "") {
			t.Errorf("%d bytes: %d bytes, %d", x.size, len(s), e)
		}
		if x.size <= 4077 && (e != api.OK || len(s) != x.size || s != laid(x.l)) {
			t.Errorf("%d bytes: %d bytes, %d", x.size, len(s), e)
		}
	}
}

// TestP6_3AllShort splits all short bytes of a few kinds.
func TestP6_3AllShort(t *testing.T) {
	of := "\x00\x01\x02\x10\x40"
	l := []string{""}
	for range 8 {
		var longer []string
		for _, s := range l {
			wantSplit(t, s)
			for i := range len(of) {
				longer = append(longer, s+of[i:i+1])
			}
		}
		l = longer
	}
}

// TestP6_3Cuts cuts bytes short at each place, and puts one too many behind them.
func TestP6_3Cuts(t *testing.T) {
	for _, l := range [][]api.Raw{
		written(full(), true), written(full(), false), {{Flags: 0xff, Type: 0xff, Value: strings.Repeat("\xff", 300)}, {Flags: 0x0f, Type: 0}},
		{{Flags: 0x40, Type: 9, Value: strings.Repeat("\x00", 255)}, {Flags: 0x40, Type: 8, Value: strings.Repeat("\x00", 256)}},
	} {
		s := laid(l)
		for i := range len(s) + 1 {
			wantSplit(t, s[:i])
			wantSplit(t, s[:i]+"\x00")
			wantSplit(t, s[:i]+"\x50")
		}
	}
}

// TestP6_3LongOfFew: the bit 0x10 may stand ahead of a short length, and is kept.
func TestP6_3LongOfFew(t *testing.T) {
	for flags := range 256 {
		for _, n := range []int{0, 1, 2, 255, 256, 300, 4096, 65535} {
			v := strings.Repeat("v", n)
			s := string([]byte{byte(flags), 7, byte(n)}) + v
			if flags&0x10 != 0 {
				s = string([]byte{byte(flags), 7, byte(n >> 8), byte(n)}) + v
			} else if n > 255 {
				continue
			}
			want := api.Raw{Flags: uint8(flags), Type: 7, Value: v}
			for _, s := range []string{s, s + s} {
				l, is := attr.Split(s)
				if !is || l[0] != want || l[len(l)-1] != want {
					t.Errorf("Flags %x, %d bytes: %s, %t", flags, n, brief(l), is)
				}
			}
			for _, s := range []string{s + "\x00", s[:len(s)-1]} {
				if l, is := attr.Split(s); is || len(l) != 0 {
					t.Errorf("Flags %x, %d bytes, one too many or too few: %s, %t", flags, n, brief(l), is)
				}
			}
		}
	}
}

// TestP6_3Many splits more than an update has room for: Split knows no limit.
func TestP6_3Many(t *testing.T) {
	one := "\x80\x63\x00"
	l, is := attr.Split(strings.Repeat(one, 200000))
	if !is || len(l) != 200000 || l[199999] != (api.Raw{Flags: 0x80, Type: 0x63}) {
		t.Errorf("%d, %t", len(l), is)
	}
	if l, is := attr.Split(strings.Repeat(one, 200000) + "\x80"); is || len(l) != 0 {
		t.Errorf("one byte too many: %d, %t", len(l), is)
	}
}

func TestP6_5Split(t *testing.T) {
	lists := [][]api.Raw{nil, {{}}, {{Flags: 0xff, Type: 0xff, Value: "x"}}, {{Flags: 0xef, Type: 1, Value: strings.Repeat("x", 256)}, {Flags: 0x10, Type: 1, Value: strings.Repeat("x", 255)}}}
	for _, a := range pool() {
		for _, four := range []bool{true, false} {
			l, _ := attr.Write(a, four)
			lists = append(lists, l)
		}
	}
	for _, l := range lists {
		s, e := attr.Lay(l)
		if e == api.ErrLong {
			continue
		}
		got, is := attr.Split(s)
		want := slices.Clone(l)
		for i := range want {
			want[i].Flags &= 0xef
			got[i].Flags &= 0xef
		}
		wantRaws(t, "Split of Lay", got, want)
		if !is || e != api.OK {
			t.Errorf("%t, %d", is, e)
		}
	}
}
