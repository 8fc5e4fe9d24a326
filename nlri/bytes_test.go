package nlri_test

import (
	"math"
	"slices"
	"strings"
	"testing"

	"herald/api"
	"herald/nlri"
)

func wantEncode(t *testing.T, l []api.Nlri, fam int, add bool) {
	t.Helper()
	want, wantErr := encoded(l, fam, add)
	if got, err := nlri.Encode(l, fam, add); got != want || err != wantErr {
		t.Errorf("Encode(%s, %d, %t) = %x, %d, not %x, %d", brief(l), fam, add, got, err, want, wantErr)
	}
}

func wantDecode(t *testing.T, s string, fam int, add bool) {
	t.Helper()
	want, wantErr := decoded(s, fam, add)
	if got, err := nlri.Decode(s, fam, add); !slices.Equal(got, want) || err != wantErr {
		t.Errorf("Decode(%x, %d, %t) = %s, %d, not %s, %d", s, fam, add, brief(got), err, brief(want), wantErr)
	}
}

// each goes through the families, with and without ids.
func each(do func(fam int, add bool)) {
	for _, fam := range fams {
		do(fam, false)
		do(fam, true)
	}
}

func TestP7_2Examples(t *testing.T) {
	for _, c := range []struct {
		n   api.Nlri
		add bool
		s   string
	}{
		{v4("\x0a\x01\x00\x00", 16, 0), false, "\x10\x0a\x01"},
		{v4("\x0a\x01\x00\x00", 16, 5), true, "\x00\x00\x00\x05\x10\x0a\x01"},
		{v4("\x0a\x01\x00\x00", 16, 0), true, "\x00\x00\x00\x00\x10\x0a\x01"},
		{l4(ten, 7, 0, 16), false, "\x1f\x00\x01\x01\x0a"},
		{vpn4(7, ten, 8, 0, 1000), false, "\x60\x00\x3e\x81\x00\x00\x00\x00\x00\x00\x00\x07\x0a"},
		{v4("\x00\x00\x00\x00", 0, 0), false, "\x00"},
		{v4("\xff\xff\xff\xff", 32, math.MaxUint32), true, "\xff\xff\xff\xff\x20\xff\xff\xff\xff"},
		{l4("\x00\x00\x00\x00", 0, 0, 0), false, "\x18\x00\x00\x01"},
		{l4(ten, 9, 0x01020304, 1<<20-1), true, "\x01\x02\x03\x04\x21\xff\xff\xf1\x0a\x00"},
	} {
		if s, err := nlri.Encode([]api.Nlri{c.n}, c.n.Prefix.Fam, c.add); s != c.s || err != api.OK {
			t.Errorf("Encode(%s) = %x, %d, not %x", brief(c.n), s, err, c.s)
		}
	}
	for _, n := range []api.Nlri{v4("\x0a\x01\x00\x00", 16, 5), {Prefix: api.Prefix{Fam: api.V6, Addr: padded("", 16)}}} {
		if s, err := nlri.Encode([]api.Nlri{n}, api.V4, false); s != "" || err != api.ErrArg {
			t.Errorf("Encode(%s) = %x, %d", brief(n), s, err)
		}
	}
}

func TestP7_2Encode(t *testing.T) {
	each(func(fam int, add bool) {
		for _, l := range [][]api.Nlri{nil, {}} {
			if s, err := nlri.Encode(l, fam, add); s != "" || err != api.OK {
				t.Errorf("family %d, nothing: %x, %d", fam, s, err)
			}
		}
		l := pool(fam, add)
		wantEncode(t, l, fam, add)
		wantEncode(t, mixed(l), fam, add)
		for _, n := range l {
			wantEncode(t, []api.Nlri{n}, fam, add)
			wantEncode(t, []api.Nlri{n, n, n}, fam, add)
			if s, err := nlri.Encode([]api.Nlri{n, n}, fam, add); err != api.OK || s != strings.Repeat(laid(n, add), 2) {
				t.Errorf("Encode of two of %s: %x, %d", brief(n), s, err)
			}
		}
	})
}

// TestP7_2EachLen: each length of each family, with all bits ahead of it, and with the last one alone.
func TestP7_2EachLen(t *testing.T) {
	each(func(fam int, add bool) {
		f := families[fam]
		for n := 0; n <= 8*f.size; n++ {
			p := api.Prefix{Fam: fam, Addr: padded(bytesOf(strings.Repeat("1", n)), f.size), Len: n}
			q := p
			if n > 0 {
				q.Addr = padded(bytesOf(strings.Repeat("0", n-1)+"1"), f.size)
			}
			l := []api.Nlri{{Prefix: p}, {Prefix: q}}
			wantEncode(t, l, fam, add)
			s, _ := encoded(l, fam, add)
			wantDecode(t, s, fam, add)
		}
	})
}

// TestP7_2Wrong: one that may not be, or is of another family, at each place of a list.
func TestP7_2Wrong(t *testing.T) {
	refused := func(l []api.Nlri, fam int, add bool) {
		t.Helper()
		if s, err := nlri.Encode(l, fam, add); s != "" || err != api.ErrArg {
			t.Errorf("Encode(%s, %d, %t) = %x, %d", brief(l), fam, add, s, err)
		}
	}
	each(func(fam int, add bool) {
		good := pool(fam, add)[:3]
		bad := slices.DeleteFunc(wrong(), func(n api.Nlri) bool { return mayBe(n) && n.Prefix.Fam == fam })
		for _, other := range fams {
			if other != fam {
				bad = append(bad, pool(other, add)...)
			}
		}
		if !add {
			for _, id := range ids[1:] {
				bad = append(bad, api.Nlri{Prefix: good[1].Prefix, Id: id})
			}
		}
		for _, n := range bad {
			for i := range len(good) + 1 {
				refused(slices.Insert(slices.Clone(good), i, n), fam, add)
			}
		}
	})
	for _, fam := range none {
		for _, add := range []bool{false, true} {
			refused(nil, fam, add)
			for _, of := range fams {
				refused(pool(of, add)[:1], fam, add)
				same := pool(of, add)[0]
				same.Prefix.Fam = fam
				refused([]api.Nlri{same}, fam, add)
			}
		}
	}
}

func TestP7_3Examples(t *testing.T) {
	for _, c := range []struct {
		s    string
		fam  int
		want []api.Nlri
		err  api.Errno
	}{
		{"\x10\x0a\x01\x00", api.V4, []api.Nlri{v4("\x0a\x01\x00\x00", 16, 0), v4("\x00\x00\x00\x00", 0, 0)}, api.OK},
		{"\x10\x0a", api.V4, nil, api.ErrForm},
		{"\x21\x0a\x00\x00\x00\x00", api.V4, nil, api.ErrForm},
		{"\x07\x0b", api.V4, []api.Nlri{v4(ten, 7, 0)}, api.OK},
		{"\x20\x80\x00\x00\x0a", api.L4, []api.Nlri{l4(ten, 8, 0, 0)}, api.OK},
		{"\x20\x00\x01\x00\x0a", api.L4, nil, api.ErrForm},
		{"\x60\x00\x3e\x81\x00\x00\x00\x00\x00\x00\x00\x07\x0a", api.Vpn4, []api.Nlri{vpn4(7, ten, 8, 0, 1000)}, api.OK},
		{"\x60\x80\x00\x00\x00\x00\x00\x00\x00\x00\x00\x07\x0a", api.Vpn4, []api.Nlri{vpn4(7, ten, 8, 0, 0)}, api.OK},
		{"", api.V4, nil, api.OK},
		{"", 0, nil, api.ErrArg},
	} {
		if l, err := nlri.Decode(c.s, c.fam, false); !slices.Equal(l, c.want) || err != c.err {
			t.Errorf("Decode(%x, %d) = %s, %d, not %s, %d", c.s, c.fam, brief(l), err, brief(c.want), c.err)
		}
	}
	if l, err := nlri.Decode("\x00\x00\x00\x05\x10\x0a\x01", api.V4, true); !slices.Equal(l, []api.Nlri{v4("\x0a\x01\x00\x00", 16, 5)}) || err != api.OK {
		t.Errorf("Decode with an Id: %s, %d", brief(l), err)
	}
}

func TestP7_3NoFamily(t *testing.T) {
	for _, fam := range none {
		for _, s := range []string{"", "\x00", "\x10\x0a", "\x21\x0a\x00\x00\x00\x00"} {
			for _, add := range []bool{false, true} {
				if l, err := nlri.Decode(s, fam, add); l != nil || err != api.ErrArg {
					t.Errorf("Decode(%x, %d, %t) = %s, %d", s, fam, add, brief(l), err)
				}
			}
		}
	}
}

// TestP7_3Order: what stands is told as it stands, and as often.
func TestP7_3Order(t *testing.T) {
	each(func(fam int, add bool) {
		if l, err := nlri.Decode("", fam, add); len(l) != 0 || err != api.OK {
			t.Errorf("family %d, nothing: %s, %d", fam, brief(l), err)
		}
		l := pool(fam, add)
		slices.Reverse(l)
		for _, l := range [][]api.Nlri{l, mixed(l), slices.Repeat(l[:2], 20), l[:1]} {
			s, _ := encoded(l, fam, add)
			if got, err := nlri.Decode(s, fam, add); !slices.Equal(got, l) || err != api.OK {
				t.Errorf("family %d, %t: %s came back as %s, %d", fam, add, brief(l), brief(got), err)
			}
		}
	})
}

// TestP7_3Cut: bytes cut at each place are refused, but for where one told prefix ends; so they are behind others.
func TestP7_3Cut(t *testing.T) {
	each(func(fam int, add bool) {
		for _, n := range mixed(pool(fam, add))[:40] {
			s := laid(n, add)
			for at := 1; at < len(s); at++ {
				for _, cut := range []string{s[:at], s + s[:at], s + s + s[:at]} {
					if l, err := nlri.Decode(cut, fam, add); l != nil || err != api.ErrForm {
						t.Errorf("Decode(%x, %d, %t) = %s, %d", cut, fam, add, brief(l), err)
					}
				}
				// Without their beginning they are something else, or nothing.
				wantDecode(t, s[at:], fam, add)
			}
			wantDecode(t, s+"\x00", fam, add)
			wantDecode(t, s+"\xff", fam, add)
		}
	})
}

// TestP7_3Counts: each count of bits, with as many bytes as it needs, with one less and one more.
func TestP7_3Counts(t *testing.T) {
	each(func(fam int, add bool) {
		f := families[fam]
		ahead, least := "", 0
		if add {
			ahead = "\x00\x00\x00\x05"
		}
		if f.labels {
			least = 24
		}
		if f.rd {
			least = 88
		}
		for count := range 256 {
			for _, fill := range []string{"\x01", "\x11", "\xff"} {
				whole := (count + 7) / 8
				body := strings.Repeat(fill, whole)
				s := ahead + string([]byte{byte(count)}) + body
				_, err := nlri.Decode(s, fam, add)
				if may := count >= least && count-least <= 8*f.size; may != (err == api.OK) {
					t.Errorf("family %d, %t, %d bits: %d", fam, add, count, err)
				}
				wantDecode(t, s, fam, add)
				wantDecode(t, s[:len(s)-1], fam, add)
				wantDecode(t, s+fill, fam, add)
				wantDecode(t, s+strings.Repeat(fill, 40), fam, add)
			}
		}
	})
}

// TestP7_3Short: all bytes of up to two, and those of three that are near the ends.
func TestP7_3Short(t *testing.T) {
	each(func(fam int, add bool) {
		for a := range 256 {
			wantDecode(t, string([]byte{byte(a)}), fam, add)
			for b := range 256 {
				wantDecode(t, string([]byte{byte(a), byte(b)}), fam, add)
			}
		}
		near := []byte{0, 1, 7, 8, 9, 0x10, 0x17, 0x18, 0x19, 0x20, 0x21, 0x38, 0x58, 0x60, 0x80, 0xff}
		for _, a := range near {
			for _, b := range near {
				for _, c := range near {
					for _, d := range near {
						s := string([]byte{a, b, c, d})
						wantDecode(t, s, fam, add)
						if add {
							wantDecode(t, "\x00\x00\x00\x00"+s, fam, add)
						}
					}
				}
			}
		}
	})
}

// TestP7_3BitsBehind: whatever stands behind Len within the last byte counts as 0.
func TestP7_3BitsBehind(t *testing.T) {
	each(func(fam int, add bool) {
		for _, n := range pool(fam, add) {
			free := (8 - n.Prefix.Len%8) % 8
			for x := range 1 << free {
				b := []byte(laid(n, add))
				b[len(b)-1] |= byte(x)
				if l, err := nlri.Decode(string(b), fam, add); !slices.Equal(l, []api.Nlri{n}) || err != api.OK {
					t.Errorf("Decode(%x, %d, %t) = %s, %d, not %s", b, fam, add, brief(l), err, brief(n))
				}
				// It does not reach the one behind.
				if l, err := nlri.Decode(string(b)+laid(n, add), fam, add); !slices.Equal(l, []api.Nlri{n, n}) || err != api.OK {
					t.Errorf("Decode(%x twice, %d, %t) = %s, %d", b, fam, add, brief(l), err)
				}
			}
		}
	})
}

// TestP7_3Labels: the lowest bit must be 1, but for the three bytes 80 00 00; the label is in the first twenty.
func TestP7_3Labels(t *testing.T) {
	var values []uint32
	for bit := range 24 {
		values = append(values, 1<<bit, 1<<bit|1, 0x800000|1<<bit, 0xffffff^1<<bit)
	}
	for low := range uint32(32) {
		values = append(values, low, 0x000100|low, 0x800000|low, 0xffffe0|low, 0x7fffe0|low)
	}
	each(func(fam int, add bool) {
		if !families[fam].labels {
			return
		}
		n := api.Nlri{Prefix: prefixes(fam)[8]}
		at := 1
		if add {
			at = 5
		}
		for _, v := range values {
			b := []byte(laid(n, add))
			b[at], b[at+1], b[at+2] = byte(v>>16), byte(v>>8), byte(v)
			l, err := nlri.Decode(string(b), fam, add)
			want := n
			want.Label = v / 16
			if v == 0x800000 {
				want.Label = 0
			}
			switch {
			case v%2 == 1 || v == 0x800000:
				if !slices.Equal(l, []api.Nlri{want}) || err != api.OK {
					t.Errorf("family %d, label %06x: %s, %d, not %s", fam, v, brief(l), err, brief(want))
				}
			case l != nil || err != api.ErrForm:
				t.Errorf("family %d, label %06x: %s, %d", fam, v, brief(l), err)
			}
			wantDecode(t, string(b), fam, add)
			wantDecode(t, laid(n, add)+string(b), fam, add)
		}
	})
}

// TestP7_3NoLabelElsewhere: 80 00 00 means nothing in a family without labels, and as an Id or a distinguisher.
func TestP7_3NoLabelElsewhere(t *testing.T) {
	if l, err := nlri.Decode("\x18\x80\x00\x00", api.V4, false); !slices.Equal(l, []api.Nlri{v4("\x80\x00\x00\x00", 24, 0)}) || err != api.OK {
		t.Errorf("of V4: %s, %d", brief(l), err)
	}
	if l, err := nlri.Decode("\x00\x80\x00\x00\x18\x80\x00\x00", api.L4, true); !slices.Equal(l, []api.Nlri{l4("\x00\x00\x00\x00", 0, 0x800000, 0)}) || err != api.OK {
		t.Errorf("of L4, with an Id: %s, %d", brief(l), err)
	}
	if l, err := nlri.Decode("\x58\x80\x00\x00\x00\x00\x00\x00\x00\x80\x00\x00", api.Vpn4, false); !slices.Equal(l, []api.Nlri{vpn4(0x800000, "\x00\x00\x00\x00", 0, 0, 0)}) || err != api.OK {
		t.Errorf("of Vpn4: %s, %d", brief(l), err)
	}
}

// TestP7_3OneChanged: each byte of a list's bytes, changed in turn, held against the model.
func TestP7_3OneChanged(t *testing.T) {
	each(func(fam int, add bool) {
		l := mixed(pool(fam, add))[:6]
		s, _ := encoded(l, fam, add)
		for i := range len(s) {
			for _, x := range []byte{0x01, 0x02, 0x04, 0x08, 0x10, 0x20, 0x40, 0x80, 0xff} {
				b := []byte(s)
				b[i] ^= x
				wantDecode(t, string(b), fam, add)
			}
		}
	})
}

func TestP7_3Many(t *testing.T) {
	s := strings.Repeat("\x08\x0a\x09\x0b\x80", 20000)
	l, err := nlri.Decode(s, api.V4, false)
	if err != api.OK || len(l) != 40000 || l[39998] != v4(ten, 8, 0) || l[39999] != v4("\x0b\x80\x00\x00", 9, 0) {
		t.Errorf("%d of 40000, %d", len(l), err)
	}
	if back, err := nlri.Encode(l, api.V4, false); back != s || err != api.OK {
		t.Errorf("%d bytes of %d came back, %d", len(back), len(s), err)
	}
	if l, err := nlri.Decode(s+"\x08", api.V4, false); l != nil || err != api.ErrForm {
		t.Errorf("cut at the end: %d of them, %d", len(l), err)
	}
}

// TestP7_5Back: what is laid comes back, and has the sizes of all together.
func TestP7_5Back(t *testing.T) {
	each(func(fam int, add bool) {
		all := pool(fam, add)
		for _, l := range [][]api.Nlri{nil, all[:1], all[:2], mixed(all), slices.Repeat(all[2:5], 3), all} {
			s, err := nlri.Encode(l, fam, add)
			if err != api.OK {
				t.Errorf("Encode(%s) = %d", brief(l), err)
			}
			size := 0
			for _, n := range l {
				one, _ := nlri.Size(n, add)
				size += one
			}
			if size != len(s) {
				t.Errorf("%s: sizes of %d, %d bytes", brief(l), size, len(s))
			}
			if back, err := nlri.Decode(s, fam, add); err != api.OK || !slices.Equal(back, l) {
				t.Errorf("%s came back as %s, %d", brief(l), brief(back), err)
			}
		}
	})
}

// TestP7_5Taken: what Decode takes of any bytes may be, and is laid and read so again.
func TestP7_5Taken(t *testing.T) {
	taken := 0
	at := uint64(7)
	each(func(fam int, add bool) {
		all := mixed(pool(fam, add))
		for i := range 4000 {
			i %= len(all) - 3
			s, _ := encoded(all[i:i+3], fam, add)
			b := []byte(s)
			for range 2 {
				at = at*6364136223846793005 + 1442695040888963407
				b[int(at>>33)%len(b)] ^= 1 << (at >> 61)
			}
			got, err := nlri.Decode(string(b), fam, add)
			if err != api.OK {
				continue
			}
			taken++
			size := 0
			for _, n := range got {
				one, err := nlri.Size(n, add)
				size += one
				if err != api.OK || nlri.Check(n) != api.OK || n.Prefix.Fam != fam || n.Id != 0 && !add {
					t.Errorf("Decode(%x, %d, %t) took %s", b, fam, add, brief(n))
				}
			}
			again, err := nlri.Encode(got, fam, add)
			back, errBack := nlri.Decode(again, fam, add)
			if err != api.OK || len(again) != size || len(again) != len(b) || errBack != api.OK || !slices.Equal(back, got) {
				t.Errorf("Decode(%x, %d, %t) = %s, laid as %x, %d, read as %s, %d", b, fam, add, brief(got), again, err, brief(back), errBack)
			}
		}
	})
	if taken < 1000 {
		t.Errorf("only %d were taken", taken)
	}
}

// TestP7_5Beginnings: no bytes of one told prefix are the beginning of those of another one, in a family, with ids or without.
func TestP7_5Beginnings(t *testing.T) {
	each(func(fam int, add bool) {
		all := nlri.Withdrawn(pool(fam, add))
		for _, n := range pool(fam, add) {
			if n.Label != 0 {
				all = append(all, n)
			}
		}
		laid := map[string]api.Nlri{}
		for _, n := range all {
			s, err := nlri.Encode([]api.Nlri{n}, fam, add)
			if other, met := laid[s]; err != api.OK || met && other != n {
				t.Errorf("%s and %s: %x, %d", brief(n), brief(other), s, err)
			}
			laid[s] = n
		}
		for s, n := range laid {
			for at := range len(s) {
				if other, met := laid[s[:at]]; met {
					t.Errorf("%x of %s is the beginning of %x of %s", s[:at], brief(other), s, brief(n))
				}
			}
		}
	})
}
