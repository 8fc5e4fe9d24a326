package update_test

import (
	"fmt"
	"math/rand"
	"slices"
	"strings"
	"testing"

	"herald/api"
	"herald/update"
)

// Attributes as bytes.
var (
	origin  = raw("400101 00")
	path    = raw("400200")
	nextHop = raw("400304 0a000001")
	// base is what a told prefix needs.
	base = origin + path + nextHop
	// Those of V6, with a told prefix and without one.
	six     = "\x20" + strings.Repeat("\x00", 15)
	more6   = one(0x80, 14, raw("0002 01 10")+six+raw("00 03 20"))
	bare6   = one(0x80, 14, raw("0002 01 10")+six+raw("00"))
	gone6   = one(0x80, 15, raw("0002 01 03 20"))
	end6    = one(0x80, 15, raw("0002 01"))
	prefix6 = api.Nlri{Prefix: api.Prefix{Fam: api.V6, Addr: six, Len: 3}}
	// ten4 is 10.0.0.0/8.
	ten4 = raw("080a")
)

// one is an attribute as bytes, whose length is true.
func one(flags, typ byte, value string) string {
	if flags&0x10 != 0 {
		return string([]byte{flags, typ, byte(len(value) >> 8), byte(len(value))}) + value
	}
	return string([]byte{flags, typ, byte(len(value))}) + value
}

// body is one whose lengths are true.
func body(withdrawn, attrs, reach string) string {
	count := func(s string) string { return string([]byte{byte(len(s) >> 8), byte(len(s))}) }
	return count(withdrawn) + withdrawn + count(attrs) + attrs + reach
}

// wantReset asks for a Reset, beside a zero update.
func wantReset(t *testing.T, b string, s api.Session, sub uint8) {
	t.Helper()
	wantDecode(t, b, s, true, api.Update{}, reset(sub))
	wantDecode(t, b, s, false, api.Update{}, reset(sub))
}

// wantTold asks for an update, whoever told it.
func wantTold(t *testing.T, b string, s api.Session, u api.Update, v api.Verdict) {
	t.Helper()
	wantDecode(t, b, s, true, u, v)
	wantDecode(t, b, s, false, u, v)
}

func TestP11_3Examples(t *testing.T) {
	wantTold(t, raw("0000 0000"), example, api.Update{}, fine)
	wantTold(t, raw("0002 080a 0000"), example, api.Update{Withdrawn: list(ten())}, fine)
	wantTold(t, raw("0000 000e 400101 00 400200 400304 0a000001 080a"), example, reached(), fine)
	wantReset(t, "", example, 1)
	wantReset(t, raw("0005 080a 0000"), example, 1)
	wantReset(t, raw("0001 21 0000"), example, 10)
	wantTold(t, raw("0000 0003 400101 080a"), example, api.Update{Reach: list(ten())}, withdraw)
	wantTold(t, raw("0000 0007 400101 00 400200 080a"), example, api.Update{Reach: list(ten())}, withdraw)
	wantTold(t, raw("0000 0007 800f04 0003 01 00"), example, api.Update{}, fine)
	wantReset(t, raw("0000 0006 400f03 0002 01"), example, 4)
	wantTold(t, raw("0000 0006 800f03 0002 01"), example, api.Update{GoneFam: api.V6}, fine)
}

// TestP11_3Lengths: bodies that are too short, and lengths that are one less, and one more, than is right.
func TestP11_3Lengths(t *testing.T) {
	for n := range 4 {
		for _, c := range []string{"\x00", "\x01", "\x08", "\xff"} {
			wantReset(t, strings.Repeat(c, n), example, 1)
		}
	}
	wantTold(t, raw("0000 0000"), example, api.Update{}, fine)
	wantReset(t, raw("0001 0000"), example, 1)
	wantReset(t, raw("0002 0000"), example, 1)
	wantReset(t, raw("0003 0000"), example, 1)
	wantReset(t, raw("0000 0001"), example, 1)
	wantReset(t, raw("ffff ffff"), example, 1)
	wantReset(t, raw("0000 ffff"), example, 1)
	wantReset(t, raw("0100 0000"), example, 1)
	wantReset(t, raw("0000 0100"), example, 1)
	// One less of Withdrawn: the last of its bytes is the first one of the next length.
	wantReset(t, raw("0001 080a 0000"), example, 1)
	wantReset(t, raw("0001 08 0000"), example, 10)
	wantReset(t, raw("0003 080a 00 00"), example, 1)
	wantReset(t, raw("0004 080a 0000"), example, 1)
	wantTold(t, raw("0003 080a 00 0000"), example, api.Update{Withdrawn: list(ten(), told(api.V4, 0, 0, 0))}, fine)
	wantReset(t, raw("0001 00 00"), example, 1)
	wantTold(t, raw("0001 00 0000"), example, api.Update{Withdrawn: list(told(api.V4, 0, 0, 0))}, fine)
	// One less of the attributes: the last byte of NEXT_HOP is told as a prefix's length; one more: Reach lacks a byte.
	whole := body("", base, ten4)
	at := func(n int) string { return whole[:3] + string([]byte{byte(n)}) + whole[4:] }
	wantTold(t, at(14), example, reached(), fine)
	wantReset(t, at(13), example, 10) // 01 08 0a: of the second prefix a byte is missing
	wantReset(t, at(15), example, 10) // 0a alone
	wantReset(t, at(17), example, 1)
	wantTold(t, at(16), example, api.Update{}, withdraw) // 08 0a is no attribute
	wantTold(t, body("", base, ""), example, api.Update{}, fine)
	wantReset(t, at(14)[:17], example, 1)
}

// TestP11_3EachLength: all numbers near the right ones in both lengths, and each end that is too early.
func TestP11_3EachLength(t *testing.T) {
	for _, s := range []api.Session{every, withAll} {
		whole := []byte(bodyOf(full(), s))
		first := 2 + int(whole[0])<<8 + int(whole[1])
		for _, place := range []int{0, first} {
			right := int(whole[place])<<8 + int(whole[place+1])
			for n := range 600 {
				b := slices.Clone(whole)
				b[place], b[place+1] = byte(n>>8), byte(n)
				action := wantModel(t, string(b), s, true)
				if n == right && action != api.Fine || n > len(whole) && action != api.Reset {
					t.Errorf("length %d at %d: %d", n, place, action)
				}
			}
		}
		for n := range whole {
			wantModel(t, string(whole[:n]), s, true)
		}
	}
}

// TestP11_3Prefixes: bytes that are no prefixes, in both lists, though V4 was not agreed upon.
func TestP11_3Prefixes(t *testing.T) {
	for _, s := range []api.Session{example, every, {}, {Fams: []int{api.V6}}} {
		for _, wrong := range []string{"\x21", "\x08", "\x20\x0a\x00\x00", "\xff", raw("080a 21"), raw("21 0a000000 00")} {
			wantReset(t, body(wrong, "", ""), s, 10)
			wantReset(t, body("", base, wrong), s, 10)
			wantReset(t, body("", "", wrong), s, 10)
			wantReset(t, body(wrong, base, wrong), s, 10)
			wantReset(t, body(ten4, base, wrong), s, 10)
			wantReset(t, body(wrong, base, ten4), s, 10)
			// That stands ahead of what is wrong with the attributes.
			wantReset(t, body(wrong, "\x40", ""), s, 10)
			wantReset(t, body("", raw("406300"), wrong), s, 10)
			wantReset(t, body("", raw("400e00"), wrong), s, 10)
		}
	}
	// Bits behind Len count as 0; the order is as it stands, and what is twice is twice.
	odd := told(api.V4, 0, 0, 0)
	wantTold(t, raw("0007 070b 00 080a 080a 0000"), example, api.Update{Withdrawn: list(api.Nlri{Prefix: api.Prefix{Fam: api.V4, Addr: "\x0a\x00\x00\x00", Len: 7}}, odd, ten(), ten())}, fine)
	wantTold(t, body("", base, raw("080a 00 080a")), example, with(reached(), func(u *api.Update) { u.Reach = list(ten(), odd, ten()) }), fine)
}

// TestP11_3Ids: with ids are the prefixes of the families that are in Take; Send has no say.
func TestP11_3Ids(t *testing.T) {
	s := func(take, send []int) api.Session {
		return api.Session{Fams: fams, Four: true, Take: take, Send: send}
	}
	id := ten()
	id.Id = 5
	want := with(reached(), func(u *api.Update) { u.Withdrawn, u.Reach = list(id), list(id) })
	laid := raw("00000005 080a")
	wantTold(t, body(laid, base, laid), s([]int{api.V4}, nil), want, fine)
	wantTold(t, body(laid, base, laid), s(fams, nil), want, fine)
	wantReset(t, body(ten4, base, ""), s([]int{api.V4}, nil), 10)
	wantReset(t, body("", base, ten4), s([]int{api.V4}, nil), 10)
	// Without ids they are the prefixes of the bytes 00, 00, 00, 00, 05 08, 0a ..
	wantReset(t, body(laid, base, ""), s([]int{api.V6, api.L4, api.Vpn4, api.Vpn6}, fams), 10)
	wantTold(t, body(ten4, base, ten4), s([]int{api.V6, api.L4, api.Vpn4, api.Vpn6}, fams), with(reached(), func(u *api.Update) { u.Withdrawn = u.Reach }), fine)
	for _, fam := range fams {
		l := withIds(two(fam))
		u := api.Update{Fam: fam, Next: hopOf(fam), More: l, Has: true, GoneFam: fam, Gone: l}
		b := bodyOf(u, s(nil, []int{fam}))
		wantTold(t, b, s([]int{fam}, nil), u, fine)
		wantTold(t, b, s([]int{fam, fam, 99}, nil), u, fine)
		u.More, u.Gone = two(fam), two(fam)
		others := slices.DeleteFunc(slices.Clone(fams), func(f int) bool { return f == fam })
		wantTold(t, bodyOf(u, s(nil, nil)), s(others, fams), u, fine)
		wantTold(t, bodyOf(u, s(nil, nil)), s(nil, fams), u, fine)
	}
}

// TestP11_3Uneven: attributes that do not come out even: there are none.
func TestP11_3Uneven(t *testing.T) {
	want := api.Update{Withdrawn: list(ten()), Reach: list(ten())}
	for _, wrong := range []string{"\x40", "\x40\x01", "\x40\x01\x01", raw("50 01 00"), raw("40 02 05 01020304")} {
		// Right and wrong ones ahead of that count for nothing: what would be a Reset, too.
		for _, ahead := range []string{"", base, base + more6 + gone6, raw("406300"), raw("400e00"), raw("800e00"), gone6 + gone6, raw("400101 05")} {
			wantTold(t, body(ten4, ahead+wrong, ten4), example, want, withdraw)
			wantTold(t, body("", ahead+wrong, ""), example, api.Update{}, withdraw)
			wantTold(t, body(ten4, ahead+wrong, ""), example, api.Update{Withdrawn: list(ten())}, withdraw)
			wantTold(t, body(ten4, ahead+wrong, ten4), api.Session{Fams: []int{api.V6}}, api.Update{}, withdraw)
		}
	}
}

// TestP11_3Read: attributes that are wrong have the action that is tabled; the lists stand.
func TestP11_3Read(t *testing.T) {
	told := with(reached(), func(u *api.Update) { u.Withdrawn = list(ten()) })
	bare := api.Update{Withdrawn: list(ten()), Reach: list(ten())}
	ask := func(more string, internal bool, u api.Update, v api.Verdict) {
		t.Helper()
		wantDecode(t, body(ten4, base+more, ten4), example, internal, u, v)
		wantDecode(t, body(ten4, more+base, ten4), example, internal, u, v)
	}
	for _, internal := range []bool{true, false} {
		ask("", internal, told, fine)
		ask(raw("406300"), internal, api.Update{}, reset(2))
		ask(raw("006300"), internal, api.Update{}, reset(2))
		ask(raw("806300"), internal, told, fine)
		ask(raw("400601 00"), internal, told, discard)
		ask(raw("c00701 00"), internal, told, discard)
		ask(raw("800405 0000000000"), internal, bare, withdraw)
		ask(raw("c00801 00"), internal, bare, withdraw)
		ask(raw("400601 00 800405 0000000000"), internal, bare, withdraw)
		ask(raw("400601 00 800405 0000000000 406300"), internal, api.Update{}, reset(2))
	}
	ask(raw("400504 00000064"), true, with(told, func(u *api.Update) { u.Attrs.HasPref, u.Attrs.Pref = true, 100 }), fine)
	ask(raw("400504 00000064"), false, told, discard)
	ask(raw("400503 000064"), true, bare, withdraw)
	ask(raw("400503 000064"), false, told, discard)
	ask(raw("800904 00000007 800a04 00000009"), true, with(told, func(u *api.Update) { u.Attrs.HasOrig, u.Attrs.Orig, u.Attrs.Clusters = true, 7, []uint32{9} }), fine)
	ask(raw("800904 00000007 800a04 00000009"), false, told, discard)
	// Without Reach and More there are no attributes, but there is what is wrong with them.
	wantTold(t, body(ten4, base, ""), example, api.Update{Withdrawn: list(ten())}, fine)
	wantTold(t, body(ten4, raw("400601 00"), ""), example, api.Update{Withdrawn: list(ten())}, discard)
	wantTold(t, body(ten4, raw("400101 05"), ""), example, api.Update{Withdrawn: list(ten())}, withdraw)
	wantTold(t, body("", raw("400101 00"), ""), example, api.Update{}, fine)
	wantTold(t, body("", raw("400101 05")+gone6, ""), example, api.Update{GoneFam: api.V6, Gone: list(prefix6)}, withdraw)
	wantTold(t, body("", raw("400101 05")+path+more6, ""), example, api.Update{Fam: api.V6, Next: six, More: list(prefix6)}, withdraw)
}

// TestP11_3Four: Four tells how many bytes an AS has.
func TestP11_3Four(t *testing.T) {
	s := func(four bool) api.Session { return api.Session{Fams: []int{api.V4}, Four: four} }
	long, short := raw("400206 0201 00011170"), raw("400204 0201 0007")
	aggLong, aggShort := raw("c00708 00011170 00000009"), raw("c00706 0007 00000009")
	of := func(as uint32) api.Update {
		return with(reached(), func(u *api.Update) {
			u.Attrs.Path, u.Attrs.AggAS, u.Attrs.AggId = []api.Seg{{Kind: api.SegSeq, AS: []uint32{as}}}, as, 9
		})
	}
	bare := api.Update{Reach: list(ten())}
	wantTold(t, body("", origin+long+nextHop+aggLong, ten4), s(true), of(70000), fine)
	wantTold(t, body("", origin+short+nextHop+aggShort, ten4), s(false), of(7), fine)
	wantTold(t, body("", origin+long+nextHop, ten4), s(false), bare, withdraw)
	wantTold(t, body("", origin+short+nextHop, ten4), s(true), bare, withdraw)
	wantTold(t, body("", base+aggLong, ten4), s(false), reached(), discard)
	wantTold(t, body("", base+aggShort, ten4), s(true), reached(), discard)
}

// TestP11_3Flags: of the attributes 14 and 15 just the two highest bits count, and they stand ahead of the value.
func TestP11_3Flags(t *testing.T) {
	for flags := range 256 {
		f := byte(flags)
		told := body("", base+one(f, 14, raw("0002 01 10")+six+raw("00 03 20")), "")
		back := body("", one(f, 15, raw("0002 01 03 20")), "")
		if flags>>6 == 2 {
			wantTold(t, told, example, api.Update{Fam: api.V6, Next: six, More: list(prefix6), Has: true, Attrs: api.Attrs{Next: hop}}, fine)
			wantTold(t, back, example, api.Update{GoneFam: api.V6, Gone: list(prefix6)}, fine)
			continue
		}
		for _, s := range []api.Session{example, {}, {Fams: []int{api.V4}}} {
			wantReset(t, told, s, 4)
			wantReset(t, back, s, 4)
			for _, typ := range []byte{14, 15} {
				wantReset(t, body("", one(f, typ, ""), ""), s, 4)             // cut short
				wantReset(t, body("", one(f, typ, raw("0003 01")), ""), s, 4) // of no family
			}
		}
	}
}

// TestP11_3Values: values of the attributes 14 and 15 that are wrong, and those that are passed by.
func TestP11_3Values(t *testing.T) {
	sessions := []api.Session{example, every, {}, {Fams: []int{api.V4}}}
	reset9 := func(typ byte, value string) {
		t.Helper()
		for _, s := range sessions {
			wantReset(t, body("", one(0x80, typ, value), ""), s, 9)
			wantReset(t, body(ten4, base+one(0x80, typ, value), ten4), s, 9)
		}
	}
	for _, value := range []string{"", "\x00", "\x00\x02"} {
		reset9(14, value)
		reset9(15, value)
	}
	// Of a family that was not agreed upon, too.
	for _, value := range []string{"0002 01", "0002 01 10", "0002 01 04 0a000001 00", "0001 04 04 0a000001", "0001 01 05 0a00000100 00", "0001 80 0c 0000000000000001 0a000001 00", "0001 01 04 0a000001 00 21"} {
		reset9(14, raw(value))
	}
	for _, value := range []string{"0002 01 81", "0002 01 03", "0001 01 21", "0001 04 08 0a", "0001 80 20 000101 0a"} {
		reset9(15, raw(value))
	}
	// Of no family: passed by, whatever follows.
	for _, value := range []string{"0003 01", "0003 01 00", "0000 00", "0001 02 81", "ffff ff", "0001 81 00 00"} {
		for _, typ := range []byte{14, 15} {
			for _, s := range sessions {
				wantTold(t, body("", one(0x80, typ, raw(value)), ""), s, api.Update{}, fine)
			}
			wantTold(t, body(ten4, base+one(0x80, typ, raw(value)), ten4), example, with(reached(), func(u *api.Update) { u.Withdrawn = u.Reach }), fine)
		}
	}
	// A next hop of V6 in 32 bytes: the first 16 count.
	both := body("", origin+path+one(0x80, 14, raw("0002 01 20")+six+some(16)+raw("00 03 20")), "")
	wantTold(t, both, example, api.Update{Fam: api.V6, Next: six, More: list(prefix6), Has: true}, fine)
}

// TestP11_3NotAgreed: of each family that is not among Fams the attributes 14 and 15 are passed by.
func TestP11_3NotAgreed(t *testing.T) {
	for _, fam := range fams {
		others := slices.DeleteFunc(slices.Clone(fams), func(f int) bool { return f == fam })
		for _, u := range []api.Update{more(fam), gone(fam), {GoneFam: fam}} {
			b := bodyOf(u, every)
			wantTold(t, b, api.Session{Fams: []int{fam}, Four: true}, u, fine)
			wantTold(t, b, api.Session{Fams: others, Four: true}, api.Update{}, fine)
			wantTold(t, b, api.Session{Four: true}, api.Update{}, fine)
			wantTold(t, b, api.Session{Four: true, Fams: none}, api.Update{}, fine)
			// One that is passed by does not hold the other one back.
			other := fam%5 + 1
			pair := with(u, func(u *api.Update) {
				if u.Fam == 0 {
					u.Fam, u.Next, u.More, u.Has = other, hopOf(other), two(other), true
				} else {
					u.GoneFam, u.Gone = other, two(other)
				}
			})
			left := api.Update{GoneFam: other, Gone: two(other)}
			if u.Fam == 0 {
				left = more(other)
			}
			wantTold(t, bodyOf(pair, every), api.Session{Fams: []int{other}, Four: true}, left, fine)
			wantTold(t, bodyOf(pair, every), every, pair, fine)
		}
	}
	// Nothing that is passed by asks for attributes.
	wantTold(t, body("", more6, ""), api.Session{Fams: []int{api.V4}}, api.Update{}, fine)
	wantTold(t, body("", more6, ""), example, api.Update{Fam: api.V6, Next: six, More: list(prefix6)}, withdraw)
}

// TestP11_3WithoutPrefixes: a 14 without prefixes is passed by; a 15 is an end.
func TestP11_3WithoutPrefixes(t *testing.T) {
	wantTold(t, body("", bare6, ""), example, api.Update{}, fine)
	wantTold(t, body("", base+bare6, ""), example, api.Update{}, fine)
	wantTold(t, body("", base+bare6, ten4), example, reached(), fine)
	wantTold(t, body("", bare6+gone6, ""), example, api.Update{GoneFam: api.V6, Gone: list(prefix6)}, fine)
	wantTold(t, body("", end6, ""), example, api.Update{GoneFam: api.V6}, fine)
	wantTold(t, body(ten4, base+end6, ten4), example, with(reached(), func(u *api.Update) { u.Withdrawn, u.GoneFam = u.Reach, api.V6 }), fine)
	for _, fam := range fams {
		f := families[fam]
		next := raw(f.ahead) + hopOf(fam)
		value := raw(f.pair) + string([]byte{byte(len(next))}) + next + "\x00"
		wantTold(t, body("", one(0x80, 14, value), ""), every, api.Update{}, fine)
		wantTold(t, body("", one(0x80, 15, raw(f.pair)), ""), every, api.Update{GoneFam: fam}, fine)
	}
}

// TestP11_3Twice: a second one of the Types 14 and 15, right or wrong, wherever it stands.
func TestP11_3Twice(t *testing.T) {
	for _, pair := range [][2]string{
		{more6, more6}, {gone6, gone6}, {end6, gone6}, {bare6, more6},
		{more6, one(0x40, 14, "")}, {one(0x40, 15, ""), gone6}, {one(0x80, 15, raw("0003 01")), gone6},
	} {
		for _, s := range []api.Session{example, {}} {
			wantReset(t, body("", pair[0]+pair[1], ""), s, 1)
			wantReset(t, body("", pair[1]+base+pair[0], ten4), s, 1)
			wantReset(t, body(ten4, base+pair[0]+raw("806300")+pair[1], ""), s, 1)
		}
	}
	// Of other types the first one counts.
	wantTold(t, body("", base+raw("400101 05 400304 0b000001"), ten4), example, reached(), fine)
	wantTold(t, body("", raw("400101 05")+base, ten4), example, api.Update{Reach: list(ten())}, withdraw)
	// One of each goes.
	both := api.Update{Fam: api.V6, Next: six, More: list(prefix6), Has: true, GoneFam: api.V6, Gone: list(prefix6)}
	wantTold(t, body("", gone6+more6+path+origin, ""), example, both, fine)
	wantTold(t, body("", origin+path+more6+gone6, ""), example, both, fine)
}

// TestP11_3Order14And15: the attribute 14 is judged ahead of 15, wherever they stand.
func TestP11_3Order14And15(t *testing.T) {
	flags14, form14 := one(0x40, 14, ""), one(0x80, 14, "")
	flags15, form15 := one(0xc0, 15, ""), one(0x80, 15, "")
	for _, c := range []struct {
		fourteen, fifteen string
		sub               uint8
	}{{flags14, form15, 4}, {form14, flags15, 9}, {flags14, flags15, 4}, {form14, form15, 9}, {more6, flags15, 4}, {more6, form15, 9}, {flags14, gone6, 4}, {form14, gone6, 9}, {bare6, form15, 9}, {form14, end6, 9}} {
		wantReset(t, body("", c.fourteen+c.fifteen, ""), example, c.sub)
		wantReset(t, body("", c.fifteen+c.fourteen, ""), example, c.sub)
		// attr.Read stands ahead of both.
		wantReset(t, body("", c.fifteen+c.fourteen+raw("406300"), ""), example, 2)
	}
}

// TestP11_3V4NotAgreed: Reach and Withdrawn are passed by, and then ask for nothing.
func TestP11_3V4NotAgreed(t *testing.T) {
	for _, s := range []api.Session{{}, {Fams: []int{api.V6}}, {Fams: []int{0, -1, 257, api.L4}}, {Fams: []int{api.V6}, Take: []int{api.V6}}} {
		for _, attrs := range []string{"", base, origin, path, nextHop, origin + path} {
			wantTold(t, body(ten4, attrs, ten4), s, api.Update{}, fine)
			wantTold(t, body(ten4, attrs, ""), s, api.Update{}, fine)
			wantTold(t, body("", attrs, ten4), s, api.Update{}, fine)
		}
	}
	six4 := api.Session{Fams: []int{api.V6}}
	told := api.Update{Fam: api.V6, Next: six, More: list(prefix6), Has: true}
	wantTold(t, body(ten4, origin+path+more6, ten4), six4, told, fine)
	wantTold(t, body(ten4, base+more6, ten4), six4, with(told, func(u *api.Update) { u.Attrs.Next = hop }), fine)
	wantTold(t, body(ten4, gone6, ten4), six4, api.Update{GoneFam: api.V6, Gone: list(prefix6)}, fine)
	// V4 in the attributes 14 and 15 is passed by then, too.
	v4 := one(0x80, 14, raw("0001 01 04 0a000001 00 080a")) + one(0x80, 15, raw("0001 01 080a"))
	wantTold(t, body("", v4, ""), six4, api.Update{}, fine)
	wantTold(t, body("", origin+path+v4, ""), example, api.Update{Fam: api.V4, Next: hop, More: list(ten()), Has: true, GoneFam: api.V4, Gone: list(ten())}, fine)
}

// TestP11_3Missing: Reach and More without the Types 1, 2 and 3: each set of them.
func TestP11_3Missing(t *testing.T) {
	for set := range 8 {
		attrs := ""
		for i, a := range []string{nextHop, path, origin} {
			if set>>i&1 != 0 {
				attrs = a + attrs
			}
		}
		next := ""
		if set&1 != 0 {
			next = hop
		}
		both, all := set&6 == 6, set == 7
		ask := func(b string, u api.Update, right bool) {
			t.Helper()
			if !right {
				wantTold(t, b, example, u, withdraw)
				return
			}
			wantTold(t, b, example, with(u, func(u *api.Update) { u.Has, u.Attrs.Next = true, next }), fine)
		}
		ask(body("", attrs, ten4), api.Update{Reach: list(ten())}, all)
		ask(body(ten4, attrs, ten4), api.Update{Withdrawn: list(ten()), Reach: list(ten())}, all)
		ask(body("", attrs+more6, ""), api.Update{Fam: api.V6, Next: six, More: list(prefix6)}, both)
		ask(body("", more6+attrs+gone6, ""), api.Update{Fam: api.V6, Next: six, More: list(prefix6), GoneFam: api.V6, Gone: list(prefix6)}, both)
		ask(body("", attrs+more6, ten4), api.Update{Reach: list(ten()), Fam: api.V6, Next: six, More: list(prefix6)}, all)
		// What just takes back asks for none.
		wantTold(t, body(ten4, attrs, ""), example, api.Update{Withdrawn: list(ten())}, fine)
		wantTold(t, body("", attrs+gone6, ""), example, api.Update{GoneFam: api.V6, Gone: list(prefix6)}, fine)
		wantTold(t, body("", attrs, ""), example, api.Update{}, fine)
	}
}

// TestP11_3Several: all sets of things that are wrong at once. The first Reset is told, else the worst of all.
func TestP11_3Several(t *testing.T) {
	// In the order in which they are judged.
	const (
		length = 1 << iota
		withdrawn
		reach
		uneven
		unknown
		twice
		flags14
		form14
		flags15
		form15
		wrongOrigin
		noPath
		wrongAtomic
		sets
	)
	for set := range sets {
		has := func(bit int) bool { return set&bit != 0 }
		pick := func(bit int, wrong, right string) string {
			if has(bit) {
				return wrong
			}
			return right
		}
		value14, value15 := pick(form14, "", more6[3:]), pick(form15, "", gone6[3:])
		attrs := pick(wrongOrigin, raw("400101 07"), origin) + pick(noPath, "", path) + nextHop + pick(wrongAtomic, raw("400601 00"), "") +
			one(pick(flags15, "\x40", "\x80")[0], 15, value15) + one(pick(flags14, "\x40", "\x80")[0], 14, value14) +
			pick(unknown, raw("406300"), "") + pick(twice, more6, "") + pick(uneven, "\x40", "")
		b := body(pick(withdrawn, "\x21", ten4), attrs, pick(reach, "\x21", ten4))
		if has(length) {
			b = "\x7f" + b[1:]
		}
		lists := api.Update{Withdrawn: list(ten()), Reach: list(ten())}
		more := with(lists, func(u *api.Update) {
			u.Fam, u.Next, u.More, u.GoneFam, u.Gone = api.V6, six, list(prefix6), api.V6, list(prefix6)
		})
		whole := with(more, func(u *api.Update) { u.Has, u.Attrs.Next = true, hop })
		want, v := whole, fine
		switch {
		case has(length):
			want, v = api.Update{}, reset(1)
		case has(withdrawn), has(reach):
			want, v = api.Update{}, reset(10)
		case has(uneven):
			want, v = lists, withdraw
		case has(unknown):
			want, v = api.Update{}, reset(2)
		case has(twice):
			want, v = api.Update{}, reset(1)
		case has(flags14):
			want, v = api.Update{}, reset(4)
		case has(form14):
			want, v = api.Update{}, reset(9)
		case has(flags15):
			want, v = api.Update{}, reset(4)
		case has(form15):
			want, v = api.Update{}, reset(9)
		case has(wrongOrigin), has(noPath):
			want, v = more, withdraw
		case has(wrongAtomic):
			v = discard
		}
		wantTold(t, b, example, want, v)
	}
}

// TestP11_3Long: a body of more bytes than a message has is read none the less, up to what its lengths can tell.
func TestP11_3Long(t *testing.T) {
	for _, n := range []int{813, 815, 2000, 13000} {
		l := slices.Repeat(list(told(api.V4, 32, 0, 0)), n)
		u := with(reached(), func(u *api.Update) { u.Withdrawn, u.Reach = l, l })
		wantTold(t, bodyOf(u, every), every, u, fine)
	}
	l := slices.Repeat(list(told(api.Vpn6, 128, 0, 7)), 1000)
	u := api.Update{Fam: api.Vpn6, Next: hopOf(api.Vpn6), More: l, Has: true, GoneFam: api.Vpn6, Gone: l[:100]}
	wantTold(t, bodyOf(u, every), every, u, fine)
	wantEncode(t, u, every, "", api.ErrLong)
}

// anyBody is a body of pieces, right ones and wrong ones.
func anyBody(r *rand.Rand) string {
	pick := func(l ...string) string { return l[r.Intn(len(l))] }
	prefixes := func() string {
		return pick("", "", ten4, ten4+"\x00", raw("00000005 080a"), raw("00000000 00 00000001 20 0a000001"), raw("070b"), "\x21", pick("\x08", "\x00"))
	}
	pieces := []string{
		origin, path, nextHop, origin, path, nextHop, more6, gone6, bare6, end6, raw("400101 05"), raw("800101 00"), raw("400206 0201 00000007"), raw("400204 0201 0007"),
		raw("400600"), raw("400601 00"), raw("400504 00000064"), raw("800904 00000007"), raw("800404 00000001"), raw("800403 000001"), raw("c00804 00000001"), raw("c01008 0002000100000001"),
		raw("80630101"), raw("406300"), raw("800f03 0003 01"), raw("400f03 0002 01"), raw("800e03 0002 01"), raw("900f0003 0001 04"),
		one(0x80, 14, raw("0001 04 04 0a000001 00 20 000101 0a")), one(0x80, 14, raw("0001 80 0c 0000000000000000 0a000001 00 60 003e81 0000000000000007 0a")),
		one(0x80, 14, raw("0001 01 04 0a000001 00 00000005 08 0a")), one(0x80, 15, raw("0001 80 60 800000 0000000000000007 0a")), one(0x80, 15, raw("0001 01 080a")),
	}
	attrs := ""
	if r.Intn(4) > 0 {
		attrs = base
	}
	for range r.Intn(5) {
		p := pick(pieces...)
		if r.Intn(2) == 0 {
			attrs += p
		} else {
			attrs = p + attrs
		}
	}
	b := []byte(body(prefixes(), attrs, prefixes()))
	for range max(0, r.Intn(6)-3) {
		b[r.Intn(len(b))] = byte(r.Intn(256) >> r.Intn(8))
	}
	if r.Intn(10) == 0 {
		b = b[:r.Intn(len(b)+1)]
	}
	return string(b)
}

// TestP11_3Many: bodies of pieces, and of bytes that were changed, in any session.
func TestP11_3Many(t *testing.T) {
	r := rand.New(rand.NewSource(113))
	met := [4]int{}
	for range 60000 {
		s := anySession(r)
		if r.Intn(2) == 0 {
			s.Take, s.Fams = nil, fams
		}
		met[wantModel(t, anyBody(r), s, r.Intn(2) == 0)]++
	}
	for action, n := range met {
		if n < 500 {
			t.Errorf("the action %d was met just %d times", action, n)
		}
	}
}

// TestP11_5ThereAndBack: what is laid is read as it was, by those of the own AS.
func TestP11_5ThereAndBack(t *testing.T) {
	r := rand.New(rand.NewSource(115))
	for range 20000 {
		s := anySession(r)
		u := anyUpdate(r, s)
		b, err := update.Encode(u, s)
		if err != api.OK {
			t.Fatalf("Encode(%s, %s): %d", brief(u), brief(s), err)
		}
		wantDecode(t, b, s, true, u, fine)
		if back, _ := update.Decode(b, s, true); !update.Same(back, u) {
			t.Errorf("Same(%s, %s): false", brief(back), brief(u))
		}
	}
	for _, u := range rights() {
		b, err := update.Encode(u, withAll)
		if err != api.OK {
			t.Errorf("Encode(%s): %d", brief(u), err)
		}
		wantDecode(t, b, withAll, true, u, fine)
	}
}

// TestP11_5Again: what is taken may be, and is laid and read again as it is.
func TestP11_5Again(t *testing.T) {
	r := rand.New(rand.NewSource(116))
	told := 0
	for range 60000 {
		b, s, internal := anyBody(r), anySession(r), r.Intn(2) == 0
		if r.Intn(2) == 0 {
			s.Send, s.Take, s.Fams = nil, nil, fams
		}
		u, v := update.Decode(b, s, internal)
		if v.Action >= api.Withdraw {
			continue
		}
		if err := update.Check(u); err != api.OK {
			t.Errorf("Check(%s): %d", brief(u), err)
		}
		laid, err := update.Encode(u, s)
		again, v := update.Decode(laid, s, true)
		if err != api.OK || v != fine || !same(again, u) {
			t.Errorf("%s of %x, as bytes %x, %d, as %s, %v", brief(u), b, laid, err, brief(again), v)
		}
		if u.Has {
			told++
		}
	}
	if told < 3000 {
		t.Errorf("just %d told something", told)
	}
}

// TestP11_6AnyBytes: the verdict is one of the four, and with a Reset nothing is told.
func TestP11_6AnyBytes(t *testing.T) {
	r := rand.New(rand.NewSource(117))
	ask := func(b string) {
		s := anySession(r)
		s.Fams = append(s.Fams, none[r.Intn(len(none))])
		s.Take = append(s.Take, none[r.Intn(len(none))])
		u, v := update.Decode(b, s, r.Intn(2) == 0)
		if v.Action < api.Fine || v.Action > api.Reset {
			t.Errorf("Decode(%x): %v", b, v)
		}
		if is := v.Action == api.Reset; is != (v.Code == 3) || is != (v.Sub != 0) || is && !same(u, api.Update{}) {
			t.Errorf("Decode(%x): %v beside %s", b, v, brief(u))
		}
		if v.Action == api.Withdraw && (u.Has || !same(api.Update{Attrs: u.Attrs}, api.Update{})) {
			t.Errorf("Decode(%x): %v beside %s", b, v, brief(u))
		}
	}
	for range 60000 {
		b := make([]byte, r.Intn(60))
		for i := range b {
			b[i] = byte(r.Intn(256) >> r.Intn(9))
		}
		ask(string(b))
		ask(body("", string(b), ""))
		ask(body("", base+string(b), ten4))
		ask(anyBody(r))
	}
	for _, c := range []string{"\x00", "\x01", "\x40", "\x80", "\xff"} {
		for _, n := range []int{4077, 4078, 70000, 1 << 20} {
			ask(strings.Repeat(c, n))
			ask(raw("0000 ffff") + strings.Repeat(c, n))
			ask(raw("ffff") + strings.Repeat(c, n))
		}
	}
}

// roomy has the same lists, with room behind the ends that holds something.
func roomy(u api.Update) api.Update {
	for _, l := range []*[]api.Nlri{&u.Withdrawn, &u.Reach, &u.More, &u.Gone} {
		*l = append(slices.Clone(*l), api.Nlri{Id: 9}, api.Nlri{Id: 9})[:len(*l)]
	}
	u.Attrs.Comms = append(slices.Clone(u.Attrs.Comms), 9)[:len(u.Attrs.Comms)]
	u.Attrs.Clusters = append(slices.Clone(u.Attrs.Clusters), 9)[:len(u.Attrs.Clusters)]
	return u
}

// isUntouched tells whether a roomy update, and the room behind it, is as it was.
func isUntouched(u, was api.Update) bool {
	for _, l := range [][]api.Nlri{u.Withdrawn, u.Reach, u.More, u.Gone} {
		n := len(l)
		if !slices.Equal(l[n:n+2], list(api.Nlri{Id: 9}, api.Nlri{Id: 9})) {
			return false
		}
	}
	a := u.Attrs
	return same(u, was) && a.Comms[:len(a.Comms)+1][len(a.Comms)] == 9 && a.Clusters[:len(a.Clusters)+1][len(a.Clusters)] == 9
}

// TestR5HandedIn: what is handed in, and the room behind it, stays as it was.
func TestR5HandedIn(t *testing.T) {
	for _, was := range append(rights(), wrongs()...) {
		u, other := roomy(was), roomy(was)
		s := api.Session{Fams: []int{1, 2, 3, 4, 5, 9, 9}[:5], Four: true, Send: []int{1, 2, 3, 4, 5, 9}[:5], Take: []int{1, 9}[:1]}
		update.Check(u)
		b, _ := update.Encode(u, s)
		update.Decode(b, s, true)
		update.Same(u, other)
		update.IsEnd(u)
		if !isUntouched(u, was) || !isUntouched(other, was) {
			t.Errorf("of %s was left %s", brief(was), brief(u))
		}
		if !slices.Equal(s.Fams[:7], []int{1, 2, 3, 4, 5, 9, 9}) || !slices.Equal(s.Send[:6], []int{1, 2, 3, 4, 5, 9}) || !slices.Equal(s.Take[:2], []int{1, 9}) {
			t.Errorf("of the session was left %+v", s)
		}
	}
}

// scrawl changes all that a list holds, and the room behind it.
func scrawl[T any](l []T, with T) {
	l = l[:cap(l)]
	for i := range l {
		l[i] = with
	}
}

// TestR5Answered: a change of one list of an answer, or of the room behind it, reaches no other list, and no later answer.
func TestR5Answered(t *testing.T) {
	b := bodyOf(full(), every)
	for i, do := range []func(u *api.Update){
		func(u *api.Update) { scrawl(u.Withdrawn, api.Nlri{Id: 7}); u.Withdrawn = full().Withdrawn },
		func(u *api.Update) { scrawl(u.Reach, api.Nlri{Id: 7}); u.Reach = full().Reach },
		func(u *api.Update) { scrawl(u.More, api.Nlri{Id: 7}); u.More = full().More },
		func(u *api.Update) { scrawl(u.Gone, api.Nlri{Id: 7}); u.Gone = full().Gone },
		func(u *api.Update) { scrawl(u.Attrs.Comms, 7); u.Attrs.Comms = full().Attrs.Comms },
		func(u *api.Update) { scrawl(u.Attrs.Exts, 7); u.Attrs.Exts = full().Attrs.Exts },
		func(u *api.Update) { scrawl(u.Attrs.Larges, api.Large{A: 7}); u.Attrs.Larges = full().Attrs.Larges },
		func(u *api.Update) { scrawl(u.Attrs.Clusters, 7); u.Attrs.Clusters = full().Attrs.Clusters },
		func(u *api.Update) { scrawl(u.Attrs.Path[0].AS, 7); u.Attrs.Path[0] = full().Attrs.Path[0] },
		func(u *api.Update) { scrawl(u.Attrs.Path, api.Seg{}); u.Attrs.Path = full().Attrs.Path },
	} {
		u, _ := update.Decode(b, every, true)
		do(&u)
		if !same(u, full()) {
			t.Errorf("change %d reached another list: %s", i, brief(u))
		}
		wantDecode(t, b, every, true, full(), fine)
	}
	for _, fam := range fams {
		u, _ := update.End(fam)
		u.Has, u.Fam, u.Withdrawn = true, 9, append(u.Withdrawn, ten())
		u.Gone = append(u.Gone, ten())
		again, _ := update.End(fam)
		if is, ok := update.IsEnd(again); is != fam || !ok {
			t.Errorf("a change of End(%d) reached the next one: %s", fam, brief(again))
		}
	}
}

// TestR6AgainTheSame: the same arguments have the same answers.
func TestR6AgainTheSame(t *testing.T) {
	r := rand.New(rand.NewSource(118))
	for range 2000 {
		b, s := anyBody(r), anySession(r)
		u1, v1 := update.Decode(b, s, true)
		u2, v2 := update.Decode(b, s, true)
		if v1 != v2 || fmt.Sprint(deep(u1)) != fmt.Sprint(deep(u2)) {
			t.Errorf("Decode(%x): %v and %v", b, v1, v2)
		}
	}
}
