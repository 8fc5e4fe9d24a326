package reach_test

import (
	"math"
	"slices"
	"strings"
	"testing"

	"herald/api"
	"herald/reach"
)

// hop is the next hop of the document's examples.
const hop = "\x0a\x00\x00\x01"

// ten is 10.0.0.0/8 of a family with addresses of 4 bytes, with what its family is told with.
func ten(fam int, id, label uint32, rd uint64) api.Nlri {
	return api.Nlri{Prefix: api.Prefix{Fam: fam, RD: rd, Addr: "\x0a\x00\x00\x00", Len: 8}, Id: id, Label: label}
}

// six is 2000::/3 of a family with addresses of 16 bytes.
func six(fam int, id, label uint32, rd uint64) api.Nlri {
	return api.Nlri{Prefix: api.Prefix{Fam: fam, RD: rd, Addr: "\x20" + strings.Repeat("\x00", 15), Len: 3}, Id: id, Label: label}
}

// hop6 is a next hop of 16 bytes.
const hop6 = "\x20\x01\x0d\xb8\x00\x00\x00\x00\x00\x00\x00\x00\x00\x00\x00\x07"

// each goes through the families, with and without ids.
func each(do func(fam int, add bool)) {
	for _, fam := range fams {
		do(fam, false)
		do(fam, true)
	}
}

func wantPut(t *testing.T, fam int, next string, l []api.Nlri, add bool, want string, wantErr api.Errno) {
	t.Helper()
	if s, err := reach.Put(fam, next, l, add); s != want || err != wantErr {
		t.Errorf("Put(%d, %x, %s, %t) = %x, %d, not %x, %d", fam, next, brief(l), add, s, err, want, wantErr)
	}
}

func wantPutGone(t *testing.T, fam int, l []api.Nlri, add bool, want string, wantErr api.Errno) {
	t.Helper()
	if s, err := reach.PutGone(fam, l, add); s != want || err != wantErr {
		t.Errorf("PutGone(%d, %s, %t) = %x, %d, not %x, %d", fam, brief(l), add, s, err, want, wantErr)
	}
}

// refusedArg: ErrArg of both, but of PutGone only where the next hop is not what is wrong.
func refusedArg(t *testing.T, fam int, next string, l []api.Nlri, add bool) {
	t.Helper()
	wantPut(t, fam, next, l, add, "", api.ErrArg)
	wantPutGone(t, fam, l, add, "", api.ErrArg)
}

func TestP8_1Examples(t *testing.T) {
	if afi, safi, is := reach.Afi(api.Vpn4); afi != 1 || safi != 128 || !is {
		t.Errorf("Afi(Vpn4): %d, %d, %t", afi, safi, is)
	}
	if afi, safi, is := reach.Afi(0); afi != 0 || safi != 0 || is {
		t.Errorf("Afi(0): %d, %d, %t", afi, safi, is)
	}
	if fam := reach.Fam(1, 4); fam != api.L4 {
		t.Errorf("Fam(1, 4): %d", fam)
	}
	if fam := reach.Fam(3, 1); fam != 0 {
		t.Errorf("Fam(3, 1): %d", fam)
	}
}

func TestP8_1ThereAndBack(t *testing.T) {
	for _, fam := range fams {
		f := families[fam]
		afi, safi, is := reach.Afi(fam)
		if int(afi) != f.afi || int(safi) != f.safi || !is {
			t.Errorf("Afi(%d): %d, %d, %t", fam, afi, safi, is)
		}
		if back := reach.Fam(afi, safi); back != fam {
			t.Errorf("Fam(%d, %d): %d, not %d", afi, safi, back, fam)
		}
	}
	for _, fam := range none {
		if afi, safi, is := reach.Afi(fam); afi != 0 || safi != 0 || is {
			t.Errorf("Afi(%d): %d, %d, %t", fam, afi, safi, is)
		}
	}
}

// TestP8_1EachPair asks for every AFI with SAFIs near an edge, and for AFIs near an edge with every SAFI.
func TestP8_1EachPair(t *testing.T) {
	want := map[[2]int]int{}
	for fam, f := range families {
		want[[2]int{f.afi, f.safi}] = fam
	}
	ask := func(afi, safi int) {
		if fam := reach.Fam(uint16(afi), uint8(safi)); fam != want[[2]int{afi, safi}] {
			t.Errorf("Fam(%d, %d): %d, not %d", afi, safi, fam, want[[2]int{afi, safi}])
		}
	}
	for afi := range math.MaxUint16 + 1 {
		for _, safi := range []int{0, 1, 2, 4, 127, 128, 129, 255} {
			ask(afi, safi)
		}
	}
	for safi := range math.MaxUint8 + 1 {
		for _, afi := range []int{0, 1, 2, 3, 4, 25, 128, 255, 256, 257, 258, 512, 0x0100, 0x0201, 1 << 15, math.MaxUint16} {
			ask(afi, safi)
		}
	}
}

func TestP8_2Examples(t *testing.T) {
	one := []api.Nlri{ten(api.V4, 0, 0, 0)}
	wantPut(t, api.V4, hop, one, false, raw("0001 01 04 0a000001 00 08 0a"), api.OK)
	wantPutGone(t, api.V4, one, false, raw("0001 01 08 0a"), api.OK)
	wantPut(t, api.V4, strings.Repeat("\x00", 16), nil, false, "", api.ErrArg)
	wantPut(t, 6, hop, one, false, "", api.ErrArg)
	wantPut(t, api.V4, hop, []api.Nlri{ten(api.V4, 1, 0, 0)}, false, "", api.ErrArg)
}

// TestP8_2ByHand: a value of each family, with and without ids, as it is written out here.
func TestP8_2ByHand(t *testing.T) {
	hop6digits := "20010db8000000000000000000000007"
	for _, c := range []struct {
		fam        int
		next       string
		n          api.Nlri
		add        bool
		head, list string
	}{
		{api.V4, hop, ten(api.V4, 5, 0, 0), true, "0001 01 04 0a000001 00", "00000005 08 0a"},
		{api.V6, hop6, six(api.V6, 0, 0, 0), false, "0002 01 10" + hop6digits + "00", "03 20"},
		{api.V6, hop6, six(api.V6, 1<<31, 0, 0), true, "0002 01 10" + hop6digits + "00", "80000000 03 20"},
		{api.L4, hop, ten(api.L4, 0, 16, 0), false, "0001 04 04 0a000001 00", "20 000101 0a"},
		{api.L4, hop, ten(api.L4, 0, 16, 0), true, "0001 04 04 0a000001 00", "00000000 20 000101 0a"},
		{api.Vpn4, hop, ten(api.Vpn4, 0, 1000, 7), false, "0001 80 0c 0000000000000000 0a000001 00", "60 003e81 0000000000000007 0a"},
		{api.Vpn4, hop, ten(api.Vpn4, 9, 1000, 7), true, "0001 80 0c 0000000000000000 0a000001 00", "00000009 60 003e81 0000000000000007 0a"},
		{api.Vpn6, hop6, six(api.Vpn6, 0, 1000, 7), false, "0002 80 18 0000000000000000" + hop6digits + "00", "5b 003e81 0000000000000007 20"},
		{api.Vpn6, hop6, six(api.Vpn6, 9, 1000, 7), true, "0002 80 18 0000000000000000" + hop6digits + "00", "00000009 5b 003e81 0000000000000007 20"},
	} {
		l := []api.Nlri{c.n}
		wantPut(t, c.fam, c.next, l, c.add, raw(c.head+c.list), api.OK)
		wantPut(t, c.fam, c.next, nil, c.add, raw(c.head), api.OK)
		wantPut(t, c.fam, c.next, slices.Repeat(l, 3), c.add, raw(c.head+strings.Repeat(c.list, 3)), api.OK)
		wantPutGone(t, c.fam, l, c.add, raw(c.head)[:3]+raw(c.list), api.OK)
		wantPutGone(t, c.fam, []api.Nlri{}, c.add, raw(c.head)[:3], api.OK)
	}
}

// TestP8_2Lists: lists of nothing, of one, of many, in the order in which they stand, with each next hop.
func TestP8_2Lists(t *testing.T) {
	each(func(fam int, add bool) {
		for _, l := range lists(fam, add) {
			for _, next := range nexts(fam) {
				want, err := put(fam, next, l, add)
				if err != api.OK {
					t.Fatalf("the model refuses %s", brief(l))
				}
				wantPut(t, fam, next, l, add, want, api.OK)
			}
			want, _ := putGone(fam, l, add)
			wantPutGone(t, fam, l, add, want, api.OK)
		}
	})
}

func TestP8_2NoFamily(t *testing.T) {
	for _, fam := range none {
		for _, add := range []bool{false, true} {
			for _, next := range []string{"", hop, hop6, some(12), some(24)} {
				refusedArg(t, fam, next, nil, add)
				for _, of := range fams {
					n := one(of, 8, 0, 0)
					refusedArg(t, fam, next, []api.Nlri{n}, add)
					n.Prefix.Fam = fam
					refusedArg(t, fam, next, []api.Nlri{n}, add)
				}
			}
		}
	}
}

// TestP8_2NextSizes: a next hop of each size but the family's is refused: with its noughts ahead, and twice, too.
func TestP8_2NextSizes(t *testing.T) {
	each(func(fam int, add bool) {
		for size := range 300 {
			if size == families[fam].size {
				continue
			}
			for _, next := range []string{some(size), strings.Repeat("\x00", size)} {
				for _, l := range lists(fam, add) {
					wantPut(t, fam, next, l, add, "", api.ErrArg)
				}
			}
		}
	})
}

// TestP8_2WrongPrefixes: one that nlri.Encode refuses, at each place of a list.
func TestP8_2WrongPrefixes(t *testing.T) {
	each(func(fam int, add bool) {
		good := []api.Nlri{one(fam, 8, 0, 1), one(fam, 9, 0, 1), one(fam, 0, 0, 1)}
		for _, n := range wrong(fam, add) {
			for at := range len(good) + 1 {
				refusedArg(t, fam, nexts(fam)[0], slices.Insert(slices.Clone(good), at, n), add)
			}
		}
	})
}

// TestP8_2Long: values of just as many bytes as may be, of one fewer and of one more; of far more.
func TestP8_2Long(t *testing.T) {
	each(func(fam int, add bool) {
		next := nexts(fam)[0]
		head := len(headOf(fam, next))
		for _, size := range []int{4076, 4077, 4078, 4079, 8000, 100000} {
			l := filled(fam, add, size-head)
			s, err := reach.Put(fam, next, l, add)
			want, wantErr := put(fam, next, l, add)
			if s != want || err != wantErr || (size <= 4077) != (err == api.OK) || err == api.OK && len(s) != size {
				t.Errorf("Put of %d bytes, family %d, %t: %d bytes, %d", size, fam, add, len(s), err)
			}
			l = filled(fam, add, size-3)
			s, err = reach.PutGone(fam, l, add)
			want, wantErr = putGone(fam, l, add)
			if s != want || err != wantErr || (size <= 4077) != (err == api.OK) || err == api.OK && len(s) != size {
				t.Errorf("PutGone of %d bytes, family %d, %t: %d bytes, %d", size, fam, add, len(s), err)
			}
		}
	})
}

// TestP8_2LongAndWrong: of a list that is too long and has one that may not be, ErrArg is told, wherever that one stands.
func TestP8_2LongAndWrong(t *testing.T) {
	each(func(fam int, add bool) {
		long := filled(fam, add, 5000)
		wantPut(t, fam, nexts(fam)[0], long, add, "", api.ErrLong)
		wantPutGone(t, fam, long, add, "", api.ErrLong)
		for _, n := range wrong(fam, add) {
			for _, at := range []int{0, len(long) / 2, len(long)} {
				refusedArg(t, fam, nexts(fam)[0], slices.Insert(slices.Clone(long), at, n), add)
			}
		}
		for _, fam := range none {
			refusedArg(t, fam, hop, long, add)
		}
		wantPut(t, fam, "", long, add, "", api.ErrArg)
	})
}

// TestP8_2HandedIn: the list, and the room behind its end, stay as they were; a change of it does not reach what was answered.
func TestP8_2HandedIn(t *testing.T) {
	each(func(fam int, add bool) {
		room := slices.Concat(lists(fam, add)[5], wrong(fam, add))
		was := slices.Clone(room)
		l := room[:4]
		s, _ := reach.Put(fam, nexts(fam)[0], l, add)
		gone, _ := reach.PutGone(fam, l, add)
		reach.Put(fam, "", l, add)
		reach.Put(fam, nexts(fam)[0], room, add)
		reach.PutGone(fam, room, add)
		if !slices.Equal(room, was) {
			t.Errorf("family %d: the list was changed: %s", fam, brief(room))
		}
		want, _ := put(fam, nexts(fam)[0], was[:4], add)
		wantGone, _ := putGone(fam, was[:4], add)
		clear(room)
		if s != want || gone != wantGone {
			t.Errorf("family %d: %x, %x, not %x, %x", fam, s, gone, want, wantGone)
		}
	})
}
