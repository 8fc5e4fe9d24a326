package reach_test

import (
	"math"
	"slices"
	"strings"
	"testing"

	"herald/api"
	"herald/reach"
)

func asked(s string, adds []int) took {
	fam, next, l, err := reach.Take(s, adds)
	return took{fam, next, l, err}
}

func askedGone(s string, adds []int) took {
	fam, l, err := reach.TakeGone(s, adds)
	return took{fam: fam, l: l, err: err}
}

func wantTake(t *testing.T, s string, adds []int, want took) {
	t.Helper()
	if got := asked(s, adds); !same(got, want) {
		t.Errorf("Take(%x, %v) = %s, not %s", s, adds, brief(got), brief(want))
	}
}

func wantTakeGone(t *testing.T, s string, adds []int, want took) {
	t.Helper()
	if got := askedGone(s, adds); !same(got, want) {
		t.Errorf("TakeGone(%x, %v) = %s, not %s", s, adds, brief(got), brief(want))
	}
}

// wantModel asks both, whatever the bytes are.
func wantModel(t *testing.T, s string, adds []int) {
	t.Helper()
	wantTake(t, s, adds, take(s, adds))
	wantTakeGone(t, s, adds, takeGone(s, adds))
}

var (
	form = took{err: api.ErrForm}
	no   = took{err: api.ErrNone}
)

func TestP8_3Examples(t *testing.T) {
	one := []api.Nlri{ten(api.V4, 0, 0, 0)}
	wantTake(t, raw("0001 01 04 0a000001 00 08 0a"), nil, took{api.V4, hop, one, api.OK})
	wantTake(t, raw("0001 01"), nil, form)
	wantTake(t, raw("0003 01 00 00"), nil, no)
	wantTake(t, raw("00 01"), nil, form)
	wantTakeGone(t, raw("0001 01 08 0a"), nil, took{fam: api.V4, l: one})
	wantTakeGone(t, raw("0001 01"), nil, took{fam: api.V4})
	wantTakeGone(t, raw("0001 01 21"), nil, form)
	wantTakeGone(t, raw("0001 01 21 0a000000 00"), nil, form)
}

// TestP8_3ByHand: values that Put lays, and some that it does not, as they are written out here.
func TestP8_3ByHand(t *testing.T) {
	hop6digits := "20010db8000000000000000000000007"
	for _, c := range []struct {
		s    string
		adds []int
		want took
	}{
		{"0001 01 04 0a000001 00", nil, took{api.V4, hop, nil, api.OK}},
		{"0001 01 04 0a000001 ff 08 0a", nil, took{api.V4, hop, []api.Nlri{ten(api.V4, 0, 0, 0)}, api.OK}},
		{"0001 01 04 0a000001 00 00000005 08 0a", []int{api.V4}, took{api.V4, hop, []api.Nlri{ten(api.V4, 5, 0, 0)}, api.OK}},
		{"0001 01 04 0a000001 00 08 0b 07 0b", nil, took{api.V4, hop, []api.Nlri{{Prefix: api.Prefix{Fam: api.V4, Addr: "\x0b\x00\x00\x00", Len: 8}}, {Prefix: api.Prefix{Fam: api.V4, Addr: "\x0a\x00\x00\x00", Len: 7}}}, api.OK}},
		{"0002 01 10" + hop6digits + "00 03 3f", nil, took{api.V6, hop6, []api.Nlri{six(api.V6, 0, 0, 0)}, api.OK}},
		{"0002 01 20" + hop6digits + "fe800000000000000000000000000001 07 03 20", nil, took{api.V6, hop6, []api.Nlri{six(api.V6, 0, 0, 0)}, api.OK}},
		{"0001 04 04 0a000001 00 20 000101 0a", []int{api.V4, api.Vpn4}, took{api.L4, hop, []api.Nlri{ten(api.L4, 0, 16, 0)}, api.OK}},
		{"0001 04 04 0a000001 00 20 800000 0a", nil, took{api.L4, hop, []api.Nlri{ten(api.L4, 0, 0, 0)}, api.OK}},
		{"0001 80 0c 0000000000000000 0a000001 00 60 003e81 0000000000000007 0a", nil, took{api.Vpn4, hop, []api.Nlri{ten(api.Vpn4, 0, 1000, 7)}, api.OK}},
		{"0002 80 18 0000000000000000" + hop6digits + "00 00000009 5b 003e81 0000000000000007 20", []int{api.Vpn4, api.Vpn6}, took{api.Vpn6, hop6, []api.Nlri{six(api.Vpn6, 9, 1000, 7)}, api.OK}},
		// A pair of none stands ahead of all that is wrong behind it; too few bytes stand ahead of that.
		{"0003 01", nil, no},
		{"0003 01 ff", nil, no},
		{"0000 00", nil, no},
		{"0001 00", nil, no},
		{"0100 01 04 0a000001 00 08 0a", nil, no},
		{"", nil, form},
		{"00", nil, form},
		{"ffff", nil, form},
		// Next hops of others' sizes, with all their bytes.
		{"0001 01 00 00", nil, form},
		{"0001 01 10" + hop6digits + "00", nil, form},
		{"0001 01 0c 0000000000000000 0a000001 00", nil, form},
		{"0001 01 08 0a000001 0a000001 00", nil, form},
		{"0002 01 04 0a000001 00", nil, form},
		{"0002 01 18 0000000000000000" + hop6digits + "00", nil, form},
		{"0001 80 04 0a000001 00", nil, form},
		{"0001 80 10" + hop6digits + "00", nil, form},
		{"0002 80 10" + hop6digits + "00", nil, form},
		{"0002 80 20" + hop6digits + hop6digits + "00", nil, form},
		{"0002 80 28 0000000000000000" + hop6digits + hop6digits + "00", nil, form},
		{"0002 80 30 0000000000000000" + hop6digits + "0000000000000000" + hop6digits + "00", nil, form},
		{"0001 80 0c 0000000000000007 0a000001 00", nil, form},
		{"0002 80 18 0100000000000000" + hop6digits + "00", nil, form},
	} {
		wantTake(t, raw(c.s), c.adds, c.want)
		wantModel(t, raw(c.s), c.adds)
	}
}

// TestP8_3Short: all bytes of fewer than three are too few, even where no pair begins so.
func TestP8_3Short(t *testing.T) {
	for _, adds := range [][]int{nil, fams} {
		wantTake(t, "", adds, form)
		wantTakeGone(t, "", adds, form)
		for i := range 1 << 16 {
			s := string([]byte{byte(i >> 8), byte(i)})
			wantTake(t, s, adds, form)
			wantTakeGone(t, s, adds, form)
			wantTake(t, s[1:], adds, form)
			wantTakeGone(t, s[1:], adds, form)
		}
	}
}

// TestP8_3NoPair: pairs that are none's, whatever stands behind them.
func TestP8_3NoPair(t *testing.T) {
	behind := []string{"", "\x00", "\x04", "\xff", "\x04" + hop + "\x00\x08\x0a", "\x21", some(60)}
	for afi := range 300 {
		for safi := range 256 {
			pair := string([]byte{byte(afi >> 8), byte(afi), byte(safi)})
			if _, err := famOf(pair); err == api.OK {
				continue
			}
			for _, s := range behind {
				wantTake(t, pair+s, fams, no)
				wantTakeGone(t, pair+s, fams, no)
			}
		}
	}
	for _, fam := range fams {
		for high := 1; high < 256; high++ {
			pair := string([]byte{byte(high)}) + raw(families[fam].pair)[1:]
			wantTake(t, pair+headOf(fam, nexts(fam)[0])[3:], nil, no)
			wantTakeGone(t, pair, nil, no)
		}
	}
}

// TestP8_3Cut: values cut short at every place: what is ahead of the list must be whole, and the list end where one of it ends.
func TestP8_3Cut(t *testing.T) {
	each(func(fam int, add bool) {
		adds := addsOf(fam, add)[0]
		for _, l := range lists(fam, add) {
			for _, next := range nexts(fam) {
				s, _ := put(fam, next, l, add)
				head := len(headOf(fam, next))
				for at := range len(s) + 1 {
					if at < head {
						wantTake(t, s[:at], adds, form)
					}
					wantModel(t, s[:at], adds)
				}
			}
			s, _ := putGone(fam, l, add)
			for at := range len(s) + 1 {
				wantModel(t, s[:at], adds)
			}
		}
	})
	// Of V6 in 32 bytes, too: 16 of them are not enough.
	s := raw("000201 20") + some(32) + "\x00"
	for at := range len(s) {
		wantTake(t, s[:at], nil, form)
	}
	wantTake(t, s, nil, took{api.V6, some(32)[:16], nil, api.OK})
}

// TestP8_3NextSizes: each size that a next hop may be laid in, with as many bytes, with fewer and with more.
func TestP8_3NextSizes(t *testing.T) {
	each(func(fam int, add bool) {
		f := families[fam]
		adds := addsOf(fam, add)[0]
		for size := range 256 {
			for _, fill := range []string{strings.Repeat("\x00", size), some(size)} {
				s := raw(f.pair) + string([]byte{byte(size)}) + fill
				may := size == f.size && !f.rd || size == f.size+8 && f.rd && !strings.HasPrefix(fill, some(1)) || size == 32 && fam == api.V6
				if got := asked(s+"\x00", adds); may != (got.err == api.OK) {
					t.Errorf("family %d, a next hop in %d bytes: %s", fam, size, brief(got))
				}
				wantTake(t, s, adds, form)
				for _, behind := range []string{"\x00", "\x01\x00", "\x00\x08\x0a", strings.Repeat("\x00", 20), some(20)} {
					wantModel(t, s+behind, adds)
				}
				if size > 0 {
					wantModel(t, s[:len(s)-1]+"\x00", adds)
				}
			}
		}
	})
}

// TestP8_3SecondAddress: of V6 in 32 bytes the first 16 count, whatever the others are; no other family has it so.
func TestP8_3SecondAddress(t *testing.T) {
	l := []api.Nlri{six(api.V6, 0, 0, 0)}
	for _, next := range nexts(api.V6) {
		for _, second := range nexts(api.V6) {
			wantTake(t, raw("000201 20")+next+second+"\x00\x03\x20", nil, took{api.V6, next, l, api.OK})
		}
	}
	for _, fam := range fams {
		f := families[fam]
		if fam == api.V6 {
			continue
		}
		for _, next := range nexts(fam) {
			twice := raw(f.ahead) + next
			for _, laid := range []string{twice + next, twice + twice, next + next, twice + strings.Repeat("\x00", 32-len(twice))} {
				wantTake(t, raw(f.pair)+string([]byte{byte(len(laid))})+laid+"\x00", nil, form)
			}
		}
	}
}

// TestP8_3Noughts: each bit of the eight bytes ahead of a next hop must be 0; those of the next hop itself need not.
func TestP8_3Noughts(t *testing.T) {
	for _, fam := range []int{api.Vpn4, api.Vpn6} {
		l := []api.Nlri{one(fam, 8, 0, 7)}
		for _, next := range nexts(fam) {
			s, _ := put(fam, next, l, false)
			wantTake(t, s, nil, took{fam, next, l, api.OK})
			for bit := range 64 {
				b := []byte(s)
				b[4+bit/8] |= 1 << (bit % 8)
				wantTake(t, string(b), nil, form)
			}
			for at := 4; at < 12; at++ {
				b := []byte(s)
				b[at] = 0xff
				wantTake(t, string(b), nil, form)
			}
		}
	}
}

// TestP8_3AnyByte: the byte behind the next hop may be any.
func TestP8_3AnyByte(t *testing.T) {
	each(func(fam int, add bool) {
		for _, l := range lists(fam, add)[:6] {
			next := nexts(fam)[0]
			s, _ := put(fam, next, l, add)
			at := len(headOf(fam, next)) - 1
			for c := range 256 {
				wantTake(t, s[:at]+string([]byte{byte(c)})+s[at+1:], addsOf(fam, add)[0], took{fam, next, l, api.OK})
			}
		}
	})
	for c := range 256 {
		wantTake(t, raw("000201 20")+some(32)+string([]byte{byte(c)}), nil, took{api.V6, some(32)[:16], nil, api.OK})
	}
}

// TestP8_3Adds: with ids are just the prefixes of a family that adds have.
func TestP8_3Adds(t *testing.T) {
	each(func(fam int, add bool) {
		next := nexts(fam)[0]
		for _, l := range lists(fam, add) {
			s, _ := put(fam, next, l, add)
			gone, _ := putGone(fam, l, add)
			for _, adds := range addsOf(fam, add) {
				wantTake(t, s, adds, took{fam, next, l, api.OK})
				wantTakeGone(t, gone, adds, took{fam: fam, l: l})
			}
			for _, adds := range addsOf(fam, !add) {
				wantModel(t, s, adds)
				wantModel(t, gone, adds)
			}
		}
	})
	// The same bytes are two things.
	s := raw("00000000 00")
	wantTakeGone(t, raw("000101")+s, []int{api.V4}, took{fam: api.V4, l: []api.Nlri{one(api.V4, 0, 0, 0)}})
	wantTakeGone(t, raw("000101")+s, []int{api.V6}, took{fam: api.V4, l: slices.Repeat([]api.Nlri{one(api.V4, 0, 0, 0)}, 5)})
}

// TestP8_3WrongLists: lists that nlri.Decode refuses, behind a good beginning.
func TestP8_3WrongLists(t *testing.T) {
	each(func(fam int, add bool) {
		f := families[fam]
		ahead := ""
		if add {
			ahead = "\x00\x00\x00\x05"
		}
		least := 0
		if f.labels {
			least = 24
		}
		if f.rd {
			least = 88
		}
		bad := []string{ahead + "\xff", ahead + "\xff" + some(40), ahead + string([]byte{byte(least + 8*f.size + 1)}) + strings.Repeat("\x01", 40)}
		if least > 0 {
			bad = append(bad, ahead+string([]byte{byte(least - 1)})+strings.Repeat("\x01", 11), ahead+string([]byte{byte(least)})+strings.Repeat("\x00", 11))
		}
		if add {
			bad = append(bad, "\x00", "\x00\x00\x00\x05")
		}
		adds := addsOf(fam, add)[0]
		next := nexts(fam)[0]
		for _, l := range lists(fam, add) {
			s, _ := put(fam, next, l, add)
			gone, _ := putGone(fam, l, add)
			for _, list := range bad {
				wantTake(t, s+list, adds, form)
				wantTakeGone(t, gone+list, adds, form)
			}
		}
	})
}

// TestP8_3OneChanged: each byte of a value, changed in turn, held against the model.
func TestP8_3OneChanged(t *testing.T) {
	each(func(fam int, add bool) {
		l := lists(fam, add)[5]
		s, _ := put(fam, nexts(fam)[0], l, add)
		gone, _ := putGone(fam, l, add)
		for _, s := range []string{s, gone} {
			for i := range len(s) {
				for _, x := range []byte{0x01, 0x02, 0x04, 0x08, 0x10, 0x20, 0x40, 0x80, 0xff} {
					b := []byte(s)
					b[i] ^= x
					wantModel(t, string(b), addsOf(fam, add)[0])
					wantModel(t, string(b), addsOf(fam, add)[3])
				}
			}
		}
	})
}

// TestP8_3Any: any bytes behind any family's pair, of all lengths up to some, held against the model.
func TestP8_3Any(t *testing.T) {
	at := uint64(3)
	draw := func(n int) int {
		at = at*6364136223846793005 + 1442695040888963407
		return int(at>>33) % n
	}
	for range 100000 {
		fam := fams[draw(len(fams))]
		f := families[fam]
		b := []byte(raw(f.pair + []string{"04", "10", "0c", "18", "20"}[draw(5)] + f.ahead))
		for range draw(70) {
			b = append(b, []byte{0, 1, 7, 8, 16, 24, 32, 96, 128, byte(draw(256))}[draw(10)])
		}
		wantModel(t, string(b), fams[draw(5):])
	}
}

// TestP8_3Long: a value that is longer than Put lays is read as any.
func TestP8_3Long(t *testing.T) {
	each(func(fam int, add bool) {
		l := filled(fam, add, 50000)
		s := headOf(fam, nexts(fam)[0])
		for _, n := range l {
			one, _ := putGone(fam, []api.Nlri{n}, add)
			s += one[3:]
		}
		adds := addsOf(fam, add)[0]
		wantTake(t, s, adds, took{fam, nexts(fam)[0], l, api.OK})
		wantTakeGone(t, s[:3]+s[len(headOf(fam, nexts(fam)[0])):], adds, took{fam: fam, l: l})
		wantTake(t, s+"\x01", adds, form)
	})
}

// TestP8_3HandedIn: adds, and the room behind their end, stay as they were, and just what is ahead of it counts.
func TestP8_3HandedIn(t *testing.T) {
	room := []int{api.Vpn6, 9, -1, api.V4, api.V6, math.MaxInt}
	was := slices.Clone(room)
	s := raw("000101 04 0a000001 00 0000000000")
	gone := raw("000101 0000000000")
	for n := range len(room) + 1 {
		want := slices.Repeat([]api.Nlri{one(api.V4, 0, 0, 0)}, 5)
		if n > 3 {
			want = want[:1]
		}
		wantTake(t, s, room[:n], took{api.V4, hop, want, api.OK})
		wantTakeGone(t, gone, room[:n], took{fam: api.V4, l: want})
		reach.Take(s+"\xff", room[:n])
		reach.TakeGone(gone+"\xff", room[:n])
	}
	if !slices.Equal(room, was) {
		t.Errorf("adds were changed: %v", room)
	}
}

// TestP8_3Answered: what is answered is new memory: a change of it is not seen afterwards.
func TestP8_3Answered(t *testing.T) {
	each(func(fam int, add bool) {
		l := lists(fam, add)[5]
		s, _ := put(fam, nexts(fam)[0], l, add)
		gone, _ := putGone(fam, l, add)
		adds := addsOf(fam, add)[0]
		first, firstGone := asked(s, adds), askedGone(gone, adds)
		for _, got := range [][]api.Nlri{first.l, firstGone.l} {
			for i := range got {
				got[i] = api.Nlri{Id: 77}
			}
			_ = append(got, api.Nlri{Id: 78})
		}
		wantTake(t, s, adds, took{fam, nexts(fam)[0], l, api.OK})
		wantTakeGone(t, gone, adds, took{fam: fam, l: l})
	})
}

// TestP8_4Back: what is laid comes back, with adds that have the family just if it was laid with ids.
func TestP8_4Back(t *testing.T) {
	each(func(fam int, add bool) {
		all := append(lists(fam, add), filled(fam, add, 4000))
		for _, l := range all {
			for _, adds := range addsOf(fam, add) {
				for _, next := range nexts(fam) {
					s, err := reach.Put(fam, next, l, add)
					if got := asked(s, adds); err != api.OK || !same(got, took{fam, next, l, api.OK}) {
						t.Errorf("family %d, %t: %s came back as %s, %d", fam, add, brief(l), brief(got), err)
					}
				}
				s, err := reach.PutGone(fam, l, add)
				if got := askedGone(s, adds); err != api.OK || !same(got, took{fam: fam, l: l}) {
					t.Errorf("family %d, %t: %s that is gone came back as %s, %d", fam, add, brief(l), brief(got), err)
				}
			}
		}
	})
}

// TestP8_4Full: so does what has just as many bytes as may be.
func TestP8_4Full(t *testing.T) {
	each(func(fam int, add bool) {
		next, adds := nexts(fam)[0], addsOf(fam, add)[0]
		l := filled(fam, add, api.MaxBody-len(headOf(fam, next)))
		s, err := reach.Put(fam, next, l, add)
		if err != api.OK || len(s) != api.MaxBody {
			t.Errorf("family %d, %t: %d bytes, %d", fam, add, len(s), err)
		}
		wantTake(t, s, adds, took{fam, next, l, api.OK})
		l = filled(fam, add, api.MaxBody-3)
		s, err = reach.PutGone(fam, l, add)
		if err != api.OK || len(s) != api.MaxBody {
			t.Errorf("family %d, %t, gone: %d bytes, %d", fam, add, len(s), err)
		}
		wantTakeGone(t, s, adds, took{fam: fam, l: l})
	})
}

// TestP8_4LaidAgain: what is taken is laid as it came, where nothing was let through besides.
func TestP8_4LaidAgain(t *testing.T) {
	each(func(fam int, add bool) {
		for _, l := range lists(fam, add) {
			s, _ := put(fam, nexts(fam)[0], l, add)
			got := asked(s, addsOf(fam, add)[0])
			wantPut(t, got.fam, got.next, got.l, add, s, api.OK)
			gone, _ := putGone(fam, l, add)
			got = askedGone(gone, addsOf(fam, add)[0])
			wantPutGone(t, got.fam, got.l, add, gone, api.OK)
		}
	})
}
