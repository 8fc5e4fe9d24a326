package update_test

import (
	"fmt"
	"math"
	"math/rand"
	"slices"
	"strings"
	"testing"

	"herald/api"
	"herald/nlri"
	"herald/update"
)

func TestP11_2Examples(t *testing.T) {
	wantEncode(t, api.Update{}, example, raw("0000 0000"), api.OK)
	wantEncode(t, api.Update{Withdrawn: list(ten())}, example, raw("0002 080a 0000"), api.OK)
	wantEncode(t, reached(), example, raw("0000 000e 400101 00 400200 400304 0a000001 080a"), api.OK)
	wantEncode(t, api.Update{GoneFam: api.V6}, example, raw("0000 0006 800f03 0002 01"), api.OK)
}

// TestP11_2ByHand: bodies of each family, with and without ids, as they are written out here.
func TestP11_2ByHand(t *testing.T) {
	six := "20010db8000000000000000000000007"
	origin, path, vpn := "400101 00", "400200", "0000000000000000 0a000001"
	prefix := func(fam int, id, label uint32, rd uint64) []api.Nlri {
		p := api.Prefix{Fam: fam, RD: rd, Addr: "\x0a" + strings.Repeat("\x00", families[fam].size-1), Len: 8}
		return list(api.Nlri{Prefix: p, Id: id, Label: label})
	}
	for _, c := range []struct {
		fam  int
		next string
		l    []api.Nlri
		s    api.Session
		// what is laid of the next hop, of the list, and how many bytes of attributes there are
		hop, list  string
		told, gone string
	}{
		{api.V4, hop, prefix(api.V4, 0, 0, 0), every, "04 0a000001", "08 0a", "0015 " + origin + path + "800e0b", "0008 800f05"},
		{api.V4, hop, prefix(api.V4, 5, 0, 0), withAll, "04 0a000001", "00000005 08 0a", "0019 " + origin + path + "800e0f", "000c 800f09"},
		{api.V6, raw(six), prefix(api.V6, 0, 0, 0), every, "10" + six, "08 0a", "0021 " + origin + path + "800e17", "0008 800f05"},
		{api.V6, raw(six), prefix(api.V6, math.MaxUint32, 0, 0), withAll, "10" + six, "ffffffff 08 0a", "0025 " + origin + path + "800e1b", "000c 800f09"},
		{api.L4, hop, prefix(api.L4, 0, 16, 0), every, "04 0a000001", "20 000101 0a", "0018 " + origin + path + "800e0e", "000b 800f08"},
		{api.Vpn4, hop, prefix(api.Vpn4, 0, 1000, 7), every, "0c" + vpn, "60 003e81 0000000000000007 0a", "0028 " + origin + path + "800e1e", "0013 800f10"},
		{api.Vpn4, hop, prefix(api.Vpn4, 9, 1000, 7), withAll, "0c" + vpn, "00000009 60 003e81 0000000000000007 0a", "002c " + origin + path + "800e22", "0017 800f14"},
		{api.Vpn6, raw(six), prefix(api.Vpn6, 0, 1000, 7), every, "18 0000000000000000" + six, "60 003e81 0000000000000007 0a", "0034 " + origin + path + "800e2a", "0013 800f10"},
	} {
		pair := families[c.fam].pair
		told := api.Update{Fam: c.fam, Next: c.next, More: c.l, Has: true}
		wantEncode(t, told, c.s, raw("0000"+c.told+pair+c.hop+"00"+c.list), api.OK)
		wantDecode(t, raw("0000"+c.told+pair+c.hop+"00"+c.list), c.s, true, told, fine)
		gone := api.Update{GoneFam: c.fam, Gone: c.l}
		wantEncode(t, gone, c.s, raw("0000"+c.gone+pair+c.list), api.OK)
		wantDecode(t, raw("0000"+c.gone+pair+c.list), c.s, true, gone, fine)
	}
}

// TestP11_2Rising: the attributes 14 and 15 stand among the others where their Types ask for it.
func TestP11_2Rising(t *testing.T) {
	b, err := update.Encode(full(), every)
	if err != api.OK {
		t.Fatalf("Encode: %d", err)
	}
	var types []byte
	first := 2 + int(b[0])<<8 + int(b[1])
	end := first + 2 + int(b[first])<<8 + int(b[first+1])
	for at := first + 2; at < end; at += 3 + int(b[at+2]) {
		types = append(types, b[at+1])
	}
	if want := []byte{1, 2, 3, 4, 5, 6, 7, 8, 9, 10, 14, 15, 16, 32}; !slices.Equal(types, want) {
		t.Errorf("Types %v, not %v", types, want)
	}
	wantEncode(t, full(), every, bodyOf(full(), every), api.OK)
}

// TestP11_2Flags: of a value of 255 bytes its length has one byte, of 256 two.
func TestP11_2Flags(t *testing.T) {
	for _, c := range []struct {
		size int
		head string
	}{{255, "800fff"}, {256, "900f0100"}} {
		u := api.Update{GoneFam: api.L4, Gone: filled(api.L4, false, c.size-3)}
		wantEncode(t, u, every, raw(fmt.Sprintf("0000%04x", c.size+len(c.head)/2)+c.head+"000104"+layTold(u.Gone, false)), api.OK)
		u = api.Update{Fam: api.L4, Next: hop, More: filled(api.L4, false, c.size-9), Has: true}
		wantEncode(t, u, every, raw(fmt.Sprintf("0000%04x", 7+c.size+len(c.head)/2)+"40010100 400200"+strings.Replace(c.head, "0f", "0e", 1)+"000104 04 0a000001 00"+layTold(u.More, false)), api.OK)
	}
}

// TestP11_2Four: an AS has four bytes, or two, of which 23456 stands for one that has no room.
func TestP11_2Four(t *testing.T) {
	u := with(reached(), func(u *api.Update) {
		u.Attrs.Path = []api.Seg{{Kind: api.SegSeq, AS: []uint32{7, 70000}}}
		u.Attrs.AggAS, u.Attrs.AggId = 70000, 9
	})
	four, two := example, example
	two.Four = false
	wantEncode(t, u, four, raw("0000 0023 400101 00 40020a 0202 00000007 00011170 400304 0a000001 c00708 00011170 00000009 080a"), api.OK)
	wantEncode(t, u, two, raw("0000 001d 400101 00 400206 0202 0007 5ba0 400304 0a000001 c00706 5ba0 00000009 080a"), api.OK)
}

// TestP11_2Fams: each family that is asked for is missing alone; all others are there.
func TestP11_2Fams(t *testing.T) {
	without := func(s api.Session, fam int) api.Session {
		s.Fams = slices.DeleteFunc(slices.Clone(s.Fams), func(f int) bool { return f == fam })
		return s
	}
	for _, u := range append(rights(), api.Update{Withdrawn: two(api.V4)}, reached()) {
		asked := map[int]bool{u.Fam: true, u.GoneFam: true, api.V4: len(u.Withdrawn)+len(u.Reach) > 0 || u.Fam == api.V4 || u.GoneFam == api.V4}
		wantEncode(t, u, withAll, bodyOf(u, withAll), api.OK)
		for _, fam := range fams {
			s := without(withAll, fam)
			if asked[fam] {
				wantEncode(t, u, s, "", api.ErrArg)
			} else {
				wantEncode(t, u, s, bodyOf(u, s), api.OK)
			}
			// Families that have ids count for nothing, unless they were agreed upon.
			just := api.Session{Fams: []int{fam}, Send: fams, Four: true}
			want, err := encoded(u, just)
			wantEncode(t, u, just, want, err)
		}
		// Numbers that are no families, and families twice, change nothing.
		odd := withAll
		odd.Fams = slices.Concat(none, fams, none, fams)
		wantEncode(t, u, odd, bodyOf(u, withAll), api.OK)
	}
	// The zero update is of every session.
	wantEncode(t, api.Update{}, api.Session{}, raw("0000 0000"), api.OK)
}

// TestP11_2Ids: an Id above 0, in each list alone, with its family in Send, without it, and with all others.
func TestP11_2Ids(t *testing.T) {
	ask := func(u api.Update, fam int) {
		t.Helper()
		others := slices.DeleteFunc(slices.Clone(fams), func(f int) bool { return f == fam })
		for _, send := range [][]int{{fam}, fams, {0, fam, 99}, append(slices.Clone(others), fam)} {
			s := api.Session{Fams: fams, Four: true, Send: send}
			wantEncode(t, u, s, bodyOf(u, s), api.OK)
		}
		for _, send := range [][]int{nil, {}, others, none, {-fam, fam + 256}} {
			wantEncode(t, u, api.Session{Fams: fams, Four: true, Send: send, Take: fams}, "", api.ErrArg)
		}
	}
	for _, id := range []uint32{1, 1 << 8, 1 << 31, math.MaxUint32} {
		last := func(l []api.Nlri) { l[len(l)-1].Id = id }
		first := func(l []api.Nlri) { l[0].Id = id }
		for _, set := range []func(l []api.Nlri){last, first} {
			ask(with(api.Update{Withdrawn: two(api.V4)}, func(u *api.Update) { set(u.Withdrawn) }), api.V4)
			ask(with(reached(), func(u *api.Update) { u.Reach = two(api.V4); set(u.Reach) }), api.V4)
			ask(with(full(), func(u *api.Update) { set(u.Withdrawn) }), api.V4)
			ask(with(full(), func(u *api.Update) { set(u.Reach) }), api.V4)
			for _, fam := range fams {
				ask(with(more(fam), func(u *api.Update) { set(u.More) }), fam)
				ask(with(gone(fam), func(u *api.Update) { set(u.Gone) }), fam)
			}
		}
	}
	// An Id of 0 goes with ids, and without them.
	for _, u := range []api.Update{full(), reached(), more(api.L4), gone(api.L4)} {
		for _, s := range []api.Session{every, withAll} {
			wantEncode(t, u, s, bodyOf(u, s), api.OK)
		}
	}
}

// filled is a list of a family of just so many bytes (some hundreds, or more).
func filled(fam int, add bool, size int) []api.Nlri {
	f := families[fam]
	most, _ := nlri.Size(told(fam, 8*f.size, 0, 1), add)
	count := (size + most - 1) / most
	over := count*most - size
	var l []api.Nlri
	for range count {
		cut := min(over, f.size)
		over -= cut
		n := told(fam, 8*(f.size-cut), 0, 1)
		if add {
			n.Id = uint32(len(l)) + 1
		}
		l = append(l, n)
	}
	return l
}

// TestP11_2Long: bodies of just as many bytes as may be, of one fewer, of one more, of some more; each list makes them so.
func TestP11_2Long(t *testing.T) {
	for _, s := range []api.Session{every, withAll} {
		add := len(s.Send) > 0
		ask := func(u api.Update, at func(u *api.Update) *[]api.Nlri, fam int) {
			t.Helper()
			*at(&u) = filled(fam, add, 1000)
			around := len(bodyOf(u, s)) - 1000
			for size := 4070; size <= 4090; size++ {
				*at(&u) = filled(fam, add, size-around)
				b := bodyOf(u, s)
				if len(b) != size {
					t.Fatalf("%d bytes, not %d", len(b), size)
				}
				if size > 4077 {
					wantEncode(t, u, s, "", api.ErrLong)
					continue
				}
				wantEncode(t, u, s, b, api.OK)
				wantDecode(t, b, s, true, u, fine)
			}
		}
		withdrawn, told := func(u *api.Update) *[]api.Nlri { return &u.Withdrawn }, func(u *api.Update) *[]api.Nlri { return &u.Reach }
		for _, u := range []api.Update{reached(), full()} {
			ask(u, withdrawn, api.V4)
			ask(u, told, api.V4)
		}
		ask(api.Update{}, withdrawn, api.V4)
		for _, fam := range fams {
			ask(more(fam), func(u *api.Update) *[]api.Nlri { return &u.More }, fam)
			ask(gone(fam), func(u *api.Update) *[]api.Nlri { return &u.Gone }, fam)
		}
	}
}

// TestP11_2LongPaths: the path makes the body as long as may be, and one longer.
func TestP11_2LongPaths(t *testing.T) {
	for _, four := range []bool{true, false} {
		s := api.Session{Fams: fams, Four: four}
		size, segs := 2, 8
		if four {
			size, segs = 4, 4
		}
		// 19 bytes beside the path's segments and the prefix: two lengths, ORIGIN, the path's head, NEXT_HOP.
		left := 4077 - 19 - 2*segs - 2
		if left%size != 0 {
			t.Fatalf("%d bytes for ASs of %d", left, size)
		}
		var path []api.Seg
		for n := left / size; n > 0; n -= 255 {
			path = append(path, api.Seg{Kind: api.SegSeq, AS: slices.Repeat([]uint32{65000}, min(n, 255))})
		}
		if len(path) != segs {
			t.Fatalf("%d segments", len(path))
		}
		u := with(reached(), func(u *api.Update) { u.Attrs.Path = path })
		want := bodyOf(u, s)
		if len(want) != 4077 {
			t.Fatalf("%d bytes", len(want))
		}
		wantEncode(t, u, s, want, api.OK)
		wantEncode(t, with(u, func(u *api.Update) { u.Reach = list(told(api.V4, 9, 0, 0)) }), s, "", api.ErrLong)
		wantEncode(t, with(u, func(u *api.Update) { u.Attrs.Clusters = []uint32{1} }), s, "", api.ErrLong)
		wantEncode(t, with(u, func(u *api.Update) { u.Attrs.Atomic = true }), s, "", api.ErrLong)
		wantEncode(t, with(u, func(u *api.Update) { u.GoneFam = api.V6 }), s, "", api.ErrLong)
		wantEncode(t, with(u, func(u *api.Update) { u.Withdrawn = list(told(api.V4, 0, 0, 0)) }), s, "", api.ErrLong)
		whole := slices.Repeat([]api.Seg{{Kind: api.SegSet, AS: slices.Repeat([]uint32{1}, 255)}}, 16)
		wantEncode(t, with(u, func(u *api.Update) { u.Attrs.Path = whole }), s, "", api.ErrLong)
	}
}

// TestP11_2FarTooLong: lists whose lengths do not go into two bytes; ErrArg stands ahead of ErrLong.
func TestP11_2FarTooLong(t *testing.T) {
	for _, n := range []int{2000, 1 << 14, 1 << 16, 1 << 18} {
		for _, u := range []api.Update{
			{Withdrawn: slices.Repeat(list(told(api.V4, 24, 0, 0)), n)},
			with(reached(), func(u *api.Update) { u.Reach = slices.Repeat(list(told(api.V4, 24, 0, 0)), n) }),
			with(more(api.L4), func(u *api.Update) { u.More = slices.Repeat(list(told(api.L4, 0, 0, 0)), n) }),
			{GoneFam: api.Vpn6, Gone: slices.Repeat(list(told(api.Vpn6, 4, 0, 0)), n)},
		} {
			wantEncode(t, u, every, "", api.ErrLong)
			wantEncode(t, u, api.Session{Fams: []int{api.V6}}, "", api.ErrArg)
			wantEncode(t, with(u, func(u *api.Update) { u.Attrs.Origin = 3 }), every, "", api.ErrArg)
			wantEncode(t, with(u, func(u *api.Update) { u.Gone = append(u.Gone, api.Nlri{}) }), every, "", api.ErrArg)
			wantEncode(t, with(u, func(u *api.Update) { u.Withdrawn = append(u.Withdrawn, told(api.V4, 8, 1, 0)) }), every, "", api.ErrArg)
		}
	}
}

// TestP11_2Many: updates and sessions that need not go together.
func TestP11_2Many(t *testing.T) {
	r := rand.New(rand.NewSource(112))
	met := map[api.Errno]int{}
	for range 20000 {
		u, s := anyUpdate(r, anySession(r)), anySession(r)
		want, err := encoded(u, s)
		wantEncode(t, u, s, want, err)
		met[err]++
	}
	if met[api.OK] < 2000 || met[api.ErrArg] < 2000 {
		t.Errorf("just these were met: %v", met)
	}
}

// TestP11_2OtherFields: of a session nothing counts but Fams, Four, Send and Take.
func TestP11_2OtherFields(t *testing.T) {
	s := withAll
	s.Hold, s.Refresh, s.HasGR, s.Again, s.Time, s.Kept = -7, true, true, true, 9, []api.Restart{{Fam: 1, Kept: true}}
	wantEncode(t, full(), s, bodyOf(full(), withAll), api.OK)
	wantDecode(t, bodyOf(full(), withAll), s, true, full(), fine)
	// Take is for what is read, Send for what is laid.
	send, take := withAll, withAll
	send.Take, take.Send = nil, nil
	wantEncode(t, full(), send, bodyOf(full(), withAll), api.OK)
	wantEncode(t, full(), take, bodyOf(full(), every), api.OK)
	wantDecode(t, bodyOf(full(), withAll), take, true, full(), fine)
	wantDecode(t, bodyOf(full(), every), send, true, full(), fine)
}
