package open_test

import (
	"math/rand"
	"slices"
	"strings"
	"testing"

	"herald/api"
	"herald/open"
)

func TestP10_2Examples(t *testing.T) {
	wantFine(t, smallBody)
	for s, sub := range map[string]uint8{
		"03 0001 005a 0a000001 08 02 06 01 04 0001 00 01": 1,
		"04 0000 005a 0a000001 08 02 06 01 04 0001 00 01": 2,
		"04 0001 0002 0a000001 08 02 06 01 04 0001 00 01": 6,
		"04 0001 005a 00000000 08 02 06 01 04 0001 00 01": 3,
		"04 0001 005a 0a000001 02 01 00":                  4,
		"04 0001 005a 0a000001 03 02 06 01":               0,
		"04 0001 005a 0a000001 04 02 02 01 00":            0,
	} {
		wantReset(t, raw(s), sub)
	}
	wantFine(t, raw("04 0001 005a 0a000001 00"))
}

// TestP10_2Short: fewer than ten bytes, whatever they are; ten are enough.
func TestP10_2Short(t *testing.T) {
	for n := range 10 {
		wantReset(t, smallBody[:n], 0)
		wantReset(t, strings.Repeat("\x00", n), 0)
		wantReset(t, strings.Repeat("\xff", n), 0)
		wantReset(t, strings.Repeat("\x04", n), 0)
	}
	wantFine(t, head+"\x00")
}

// TestP10_2Lines: what is wrong in several lines at once; the first of them is told.
func TestP10_2Lines(t *testing.T) {
	for wrong := range 1 << 6 {
		b := []byte(smallBody)
		subs := []uint8{}
		for i, line := range []struct {
			at   int
			put  string
			tell uint8
		}{{0, "\x05", 1}, {1, "\x00\x00", 2}, {3, "\x00\x01", 6}, {5, "\x00\x00\x00\x00", 3}, {9, "\x07", 0}, {10, "\x03", 4}} {
			if wrong>>i&1 != 0 {
				copy(b[line.at:], line.put)
				subs = append(subs, line.tell)
			}
		}
		if len(subs) == 0 {
			wantFine(t, string(b))
			continue
		}
		wantReset(t, string(b), subs[0])
	}
}

func TestP10_2Version(t *testing.T) {
	for c := range 256 {
		s := string([]byte{byte(c)}) + smallBody[1:]
		if c == 4 {
			wantFine(t, s)
		} else {
			wantReset(t, s, 1)
		}
	}
}

// TestP10_2Numbers: all numbers that two bytes hold, as AS and as Hold.
func TestP10_2Numbers(t *testing.T) {
	for n := range 1 << 16 {
		two := string([]byte{byte(n >> 8), byte(n)})
		if o, v := open.Decode("\x04" + two + smallBody[3:]); n == 0 && (v != reset(2) || o.AS != 0) || n != 0 && (v != fine || o.AS != uint32(n) || o.Four) {
			t.Errorf("the AS %d: %+v, %v", n, o, v)
		}
		bad := n == 1 || n == 2
		if o, v := open.Decode(smallBody[:3] + two + smallBody[5:]); bad && (v != reset(6) || o.AS != 0) || !bad && (v != fine || o.Hold != n) {
			t.Errorf("Hold %d: %+v, %v", n, o, v)
		}
	}
	for at := range 32 {
		id := []byte{0, 0, 0, 0}
		id[at/8] = 1 << (at % 8)
		wantFine(t, smallBody[:5]+string(id)+smallBody[9:], func(o *api.Open) { o.Id = 1 << ((3-at/8)*8 + at%8) })
	}
}

// TestP10_2Count: the count of the parameters' bytes is each number that a byte holds; just one is right.
func TestP10_2Count(t *testing.T) {
	for _, parameters := range []string{"", one(2, ""), one(2, fam(1)), one(2, "") + one(2, fam(1)), one(2, one(200, strings.Repeat("x", 251)))} {
		for n := range 256 {
			s := head + string([]byte{byte(n)}) + parameters
			if n == len(parameters) {
				wantFine(t, s)
			} else {
				wantReset(t, s, 0)
			}
		}
	}
	wantReset(t, smallBody+"\x00", 0)
	wantReset(t, smallBody[:len(smallBody)-1], 0)
	wantReset(t, head+"\x00"+strings.Repeat("\x02\x00", 128), 0)
	wantReset(t, head+"\x08"+strings.Repeat("\x02\x00", 132), 0)
}

// TestP10_2ParameterCut: parameters that end too early at every place, with a count of all their bytes that is true.
func TestP10_2ParameterCut(t *testing.T) {
	parameter := one(2, fam(1)+one(2, "")+one(65, raw("00011170")))
	for n := range len(parameter) {
		if n == 0 {
			wantFine(t, body(parameter[:n]))
			continue
		}
		wantReset(t, body(parameter[:n]), 0)
		wantReset(t, body(one(2, ""), parameter[:n]), 0)
		wantReset(t, body(parameter, parameter[:n]), 0)
		// That it ends too early stands ahead of what kind it is.
		wantReset(t, body("\x07"+parameter[1:n]), 0)
	}
	wantReset(t, body("\x07"), 0)
	wantReset(t, body("\x02\x01"), 0)
	wantReset(t, body("\x02\xff"+fam(1)), 0)
}

// TestP10_2CapabilityCut: capabilities that end too early at every place, with counts of the parameters' bytes that are true.
func TestP10_2CapabilityCut(t *testing.T) {
	for _, c := range []string{fam(1), one(2, "xyz"), one(64, raw("0078 0001 01 80")), one(65, raw("00011170")), one(69, told(1, 3)+told(2, 1)), one(200, "abc"), one(0, "a")} {
		for n := 1; n < len(c); n++ {
			wantReset(t, capped(c[:n]), 0)
			wantReset(t, capped(c, c[:n]), 0)
			// The bytes that are missing do not come from the next parameter.
			wantReset(t, body(one(2, c[:n]), one(2, c[n:])), 0)
			wantReset(t, body(one(2, c[:n]), one(2, c)), 0)
		}
	}
	wantReset(t, capped("\x01\xff", strings.Repeat("x", 100)), 0)
}

// TestP10_2Kinds: of parameters all kinds but 2 are refused, wherever they stand, unless something ahead is wrong.
func TestP10_2Kinds(t *testing.T) {
	for kind := range 256 {
		for _, value := range []string{"", fam(1), "x", one(65, raw("00000000"))} {
			if kind == 2 {
				continue
			}
			wantReset(t, body(one(byte(kind), value)), 4)
			wantReset(t, body(one(2, fam(1)), one(byte(kind), value), one(2, fam(1))), 4)
			wantReset(t, body(one(2, "\x01"), one(byte(kind), value)), 0)
			wantReset(t, body(one(2, one(65, raw("00000000"))), one(byte(kind), value)), 2)
			wantReset(t, body(one(byte(kind), value), one(2, "\x01")), 4)
		}
	}
}

// TestP10_2Order: of several capabilities that are wrong the first one is told.
func TestP10_2Order(t *testing.T) {
	nobody, cut := one(65, raw("00000000")), one(1, "xyz")
	wantReset(t, capped(nobody, cut), 2)
	wantReset(t, capped(cut, nobody), 0)
	wantReset(t, capped(nobody, "\x01"), 2)
	wantReset(t, capped(one(65, raw("000000")), nobody), 0)
	wantReset(t, body(one(2, fam(1)+nobody), "\x02"), 2)
	wantReset(t, body(one(2, fam(1)), one(2, cut), one(2, nobody)), 0)
}

// TestP10_2Sizes: capabilities of each length there is; just those of the table are taken, and of others any.
func TestP10_2Sizes(t *testing.T) {
	for code := range 256 {
		for n := range 252 {
			c := one(byte(code), strings.Repeat("\x07", n))
			right := true
			switch code {
			case 1, 65:
				right = n == 4
			case 64:
				right = n >= 2 && (n-2)%4 == 0
			case 69:
				right = n%4 == 0
			}
			o, v := open.Decode(capped(c))
			if right && (v != fine || !slices.Equal(o.Fams, []int{1})) || !right && (v != reset(0) || !sameOpen(o, api.Open{})) {
				t.Errorf("capability %d of %d bytes: %+v, %v", code, n, o, v)
			}
			if n <= 30 {
				wantModel(t, capped(c, fam(2)))
				wantModel(t, body(one(2, fam(2)), one(2, c)))
			}
		}
	}
}

// TestP10_2Unknown: capabilities that are not known are passed by, wherever they stand.
func TestP10_2Unknown(t *testing.T) {
	for code := range 256 {
		if slices.Contains([]int{1, 2, 64, 65, 69}, code) {
			continue
		}
		for _, value := range []string{"", "a", raw("00010001"), raw("00000000"), strings.Repeat("\x02", 50)} {
			c := one(byte(code), value)
			wantFine(t, capped(c))
			wantFine(t, capped(c, fam(2), c), func(o *api.Open) { o.Fams = []int{2} })
		}
	}
}

func TestP10_2Fams(t *testing.T) {
	fams := func(l ...int) func(o *api.Open) { return func(o *api.Open) { o.Fams = l } }
	none, other := one(1, raw("0003 00 01")), one(1, raw("0001 00 02"))
	wantFine(t, body())
	wantFine(t, capped())
	wantFine(t, capped(none))
	wantFine(t, capped(none, other, one(1, raw("0000 00 00"))))
	wantFine(t, capped(none, fam(5), other), fams(5))
	wantFine(t, capped(fam(2)), fams(2))
	wantFine(t, capped(fam(5), fam(3), fam(1), fam(4), fam(2)), fams(1, 2, 3, 4, 5))
	wantFine(t, capped(fam(4), fam(2), fam(4), fam(2), fam(2)), fams(2, 4))
	wantFine(t, body(one(2, fam(3)), one(2, ""), one(2, fam(2)+fam(3))), fams(2, 3))
	for c := range 256 {
		// The byte between AFI and SAFI may be any.
		wantFine(t, capped(one(1, "\x00\x02"+string([]byte{byte(c)})+"\x80")), fams(5))
	}
}

// TestP10_2Pairs: the pairs of all five families, and those near them, in all three capabilities that have pairs.
func TestP10_2Pairs(t *testing.T) {
	for _, afi := range []int{0, 1, 2, 3, 255, 256, 257, 258, 512, 513, 0x8001, 65535} {
		for safi := range 256 {
			a, s := string([]byte{byte(afi >> 8), byte(afi)}), string([]byte{byte(safi)})
			wantModel(t, capped(one(1, a+"\x00"+s)))
			wantModel(t, capped(fam(3), one(1, a+"\x00"+s)))
			wantModel(t, capped(one(64, "\x00\x05"+a+s+"\x80")))
			wantModel(t, capped(one(69, a+s+"\x02")))
		}
	}
}

func TestP10_2Refresh(t *testing.T) {
	refresh := func(o *api.Open) { o.Refresh = true }
	for n := range 20 {
		wantFine(t, capped(one(2, strings.Repeat("\x00", n))), refresh)
	}
	wantFine(t, capped(one(2, ""), one(2, "abc"), fam(1)), refresh)
	wantFine(t, body(one(2, one(2, "")), one(2, fam(1))), refresh)
}

func TestP10_2Four(t *testing.T) {
	as := func(n uint32) func(o *api.Open) { return func(o *api.Open) { o.AS, o.Four = n, true } }
	wantFine(t, capped(one(65, raw("00011170"))), as(70000))
	wantFine(t, capped(one(65, raw("00000001"))), as(1))
	wantFine(t, capped(one(65, raw("00000002"))), as(2))
	wantFine(t, capped(one(65, raw("00005ba0"))), as(23456))
	wantFine(t, capped(one(65, raw("ffffffff"))), as(1<<32-1))
	wantFine(t, capped(one(65, raw("00011170")), one(65, raw("01000000"))), as(1<<24))
	wantFine(t, body(one(2, one(65, raw("00000009"))), one(2, one(65, raw("00000008")))), as(8))
	// Each 65 is judged, not just the last one; the AS of two bytes stands ahead.
	wantReset(t, capped(one(65, raw("00000000")), one(65, raw("00000001"))), 2)
	wantReset(t, capped(one(65, raw("00000001")), one(65, raw("00000000"))), 2)
	wantReset(t, "\x04\x00\x00"+capped(one(65, raw("00011170")))[3:], 2)
	wantReset(t, "\x04\x00\x00"+capped(one(65, raw("0001")))[3:], 2)
	// 23456 in two bytes, without the capability, is an AS as any.
	wantFine(t, "\x04\x5b\xa0"+smallBody[3:], func(o *api.Open) { o.AS = 23456 })
	wantFine(t, "\x04\xff\xff"+smallBody[3:], func(o *api.Open) { o.AS = 65535 })
}

func TestP10_2Restart(t *testing.T) {
	gr := func(again bool, time int, kept ...api.Restart) func(o *api.Open) {
		return func(o *api.Open) { o.HasGR, o.Again, o.Time, o.Kept = true, again, time, kept }
	}
	wantFine(t, capped(one(64, raw("0000"))), gr(false, 0))
	wantFine(t, capped(one(64, raw("8078"))), gr(true, 120))
	wantFine(t, capped(one(64, raw("7fff"))), gr(false, 4095))
	wantFine(t, capped(one(64, raw("f000"))), gr(true, 0))
	wantFine(t, capped(one(64, "\x00\x01"+told(5, 0x80)+told(1, 0x7f)+told(3, 0xff))), gr(false, 1, api.Restart{Fam: 1}, api.Restart{Fam: 3, Kept: true}, api.Restart{Fam: 5, Kept: true}))
	// Of several entries of a family the last one holds, of several capabilities the last one, as a whole.
	wantFine(t, capped(one(64, "\x00\x01"+told(2, 0x80)+told(2, 0))), gr(false, 1, api.Restart{Fam: 2}))
	wantFine(t, capped(one(64, "\x00\x01"+told(2, 0)+told(1, 0)+told(2, 0x80))), gr(false, 1, api.Restart{Fam: 1}, api.Restart{Fam: 2, Kept: true}))
	wantFine(t, capped(one(64, "\x80\x05"+told(2, 0x80)), one(64, "\x00\x07")), gr(false, 7))
	wantFine(t, body(one(2, one(64, "\x00\x05"+told(2, 0x80))), one(2, one(64, "\x80\x00"+told(3, 0x80)))), gr(true, 0, api.Restart{Fam: 3, Kept: true}))
	// Entries of no family are passed by; families need not be told by a capability 1.
	wantFine(t, capped(one(64, "\x00\x01"+raw("0003 01 80")+told(4, 0x80)+raw("0001 05 80"))), gr(false, 1, api.Restart{Fam: 4, Kept: true}))
	for time := range 1 << 16 {
		o, v := open.Decode(capped(one(64, string([]byte{byte(time >> 8), byte(time)}))))
		if v != fine || !o.HasGR || o.Again != (time >= 1<<15) || o.Time != time%4096 || len(o.Kept) != 0 {
			t.Errorf("the two bytes %04x: %+v, %v", time, o, v)
		}
	}
	for flags := range 256 {
		wantFine(t, capped(one(64, "\x00\x01"+told(2, byte(flags)))), gr(false, 1, api.Restart{Fam: 2, Kept: flags >= 128}))
	}
}

func TestP10_2Adds(t *testing.T) {
	adds := func(l ...api.Add) func(o *api.Open) { return func(o *api.Open) { o.Adds = l } }
	for flags := range 256 {
		c := one(69, told(2, byte(flags)))
		if flags >= 1 && flags <= 3 {
			wantFine(t, capped(c), adds(api.Add{Fam: 2, Send: flags >= 2, Take: flags != 2}))
			continue
		}
		wantFine(t, capped(c))
		wantFine(t, capped(one(69, told(1, 3)), c))
		// Such an entry is none: the one ahead of it is the last one of its family.
		wantFine(t, capped(one(69, told(2, 1)+told(2, byte(flags)))), adds(api.Add{Fam: 2, Take: true}))
		wantFine(t, capped(one(69, told(2, byte(flags))+told(2, 2))), adds(api.Add{Fam: 2, Send: true}))
	}
	wantFine(t, capped(one(69, "")))
	wantFine(t, capped(one(69, told(5, 3)+told(1, 1)+told(3, 2))), adds(api.Add{Fam: 1, Take: true}, api.Add{Fam: 3, Send: true}, api.Add{Fam: 5, Send: true, Take: true}))
	wantFine(t, capped(one(69, told(5, 3)+told(5, 1))), adds(api.Add{Fam: 5, Take: true}))
	wantFine(t, capped(one(69, told(4, 1)+told(5, 1)+told(4, 2))), adds(api.Add{Fam: 4, Send: true}, api.Add{Fam: 5, Take: true}))
	wantFine(t, capped(one(69, raw("0003 01 03")+told(4, 1)+raw("0000 00 03"))), adds(api.Add{Fam: 4, Take: true}))
	wantFine(t, capped(one(69, told(1, 3)), one(69, told(2, 1))), adds(api.Add{Fam: 2, Take: true}))
	wantFine(t, capped(one(69, told(1, 3)), one(69, "")))
	wantFine(t, body(one(2, one(69, told(1, 3))), one(2, one(69, told(3, 2)))), adds(api.Add{Fam: 3, Send: true}))
}

// TestP10_2Parameters: capabilities count alike, however they are parted into parameters.
func TestP10_2Parameters(t *testing.T) {
	caps := []string{fam(4), one(2, "ab"), one(64, "\x80\x07"+told(1, 0x80)), fam(1), one(65, raw("00011170")), one(9, "xyz"), one(69, told(4, 2)), one(65, raw("00000003"))}
	want := api.Open{AS: 3, Four: true, Hold: 90, Id: 0x0a000001, Fams: []int{1, 4}, Refresh: true, HasGR: true, Again: true, Time: 7, Kept: []api.Restart{{Fam: 1, Kept: true}}, Adds: []api.Add{{Fam: 4, Send: true}}}
	for cuts := range 1 << len(caps) {
		parameters, part := []string{}, ""
		for i, c := range caps {
			part += c
			if cuts>>i&1 != 0 {
				parameters, part = append(parameters, one(2, part)), ""
			}
		}
		wantDecode(t, body(append(parameters, one(2, part))...), want, fine)
	}
	wantFine(t, body(strings.Repeat(one(2, ""), 127)))
	wantReset(t, body(strings.Repeat(one(2, ""), 127)+"\x02"), 0)
}

// seeds are bodies of many kinds.
func seeds() []string {
	l := []string{
		smallBody, body(), capped(),
		body(one(2, fam(2)+fam(1)), one(2, one(65, raw("00011170"))), one(2, one(69, told(1, 3)+told(1, 0)))),
		capped(one(64, "\x00\x78"+told(2, 0x80)+told(2, 0)), one(64, "\x80\x00"), one(200, "abc"), fam(3)),
	}
	for _, o := range []api.Open{full(), {AS: 23456, Hold: 3, Id: 1, Fams: []int{2, 4}, Four: true, HasGR: true, Kept: []api.Restart{{Fam: 2}}}} {
		l = append(l, bodyOf(o))
	}
	return l
}

// TestP10_2EachByte: bodies with one byte put for another, left out, and put in, and cut off at each place: held against the model.
func TestP10_2EachByte(t *testing.T) {
	for _, s := range seeds() {
		for at := range len(s) {
			for c := range 256 {
				wantModel(t, s[:at]+string([]byte{byte(c)})+s[at+1:])
			}
			wantModel(t, s[:at])
			wantModel(t, s[:at]+s[at+1:])
			if at < 10 {
				continue
			}
			for _, c := range []byte{0, 1, 2, 4, 64, 65, 69, 255} {
				wantModel(t, body(s[10:at]+string([]byte{c})+s[at:]))
			}
			wantModel(t, body(s[10:at]))
			wantModel(t, body(s[10:at]+s[at+1:]))
		}
	}
}

// anyCap is a capability that mostly is right.
func anyCap(r *rand.Rand) string {
	pair := func() string {
		if r.Intn(5) == 0 {
			return string([]byte{0, byte(r.Intn(3)), byte(r.Intn(6))})
		}
		p := pairs[1+r.Intn(5)]
		return raw(p[0] + p[1])
	}
	entries := func(flags ...byte) (l string) {
		for range r.Intn(5) {
			l += pair() + string([]byte{flags[r.Intn(len(flags))]})
		}
		return l
	}
	c := ""
	switch r.Intn(6) {
	case 0:
		p := pair()
		c = one(1, p[:2]+string([]byte{byte(r.Intn(2))})+p[2:])
	case 1:
		c = one(2, strings.Repeat("\x00", r.Intn(3)))
	case 2:
		c = one(64, string([]byte{byte(r.Intn(256)), byte(r.Intn(256))})+entries(0, 0x80, 0xff, 0x7f))
	case 3:
		c = one(65, string([]byte{0, byte(r.Intn(3)), byte(r.Intn(2)), byte(r.Intn(2))}))
	case 4:
		c = one(69, entries(1, 2, 3, 1, 2, 3, 0, 4))
	default:
		c = one(byte(r.Intn(256)), strings.Repeat("\x01", r.Intn(5)))
	}
	if r.Intn(40) == 0 {
		c = c[:r.Intn(len(c)+1)]
	}
	return c
}

func TestP10_2Many(t *testing.T) {
	r := rand.New(rand.NewSource(102))
	taken := 0
	for range 30000 {
		all := ""
		for range r.Intn(4) {
			caps := ""
			for range r.Intn(5) {
				caps += anyCap(r)
			}
			kind := byte(2)
			if r.Intn(30) == 0 {
				kind = byte(r.Intn(256))
			}
			all += one(kind, caps)
		}
		if len(all) > 255 {
			continue
		}
		s := []byte(body(all))
		if r.Intn(10) == 0 {
			s[r.Intn(10)] = byte(r.Intn(5))
		}
		wantModel(t, string(s))
		if _, v := judged(string(s)); v == fine {
			taken++
		}
	}
	if taken < 10000 {
		t.Errorf("just %d bodies were right", taken)
	}
}

// TestP10_2Answered: what is answered is the caller's to change.
func TestP10_2Answered(t *testing.T) {
	for _, s := range seeds() {
		want, wantV := judged(s)
		o, _ := open.Decode(s)
		other, _ := open.Decode(s)
		scrawl(&o)
		wantDecode(t, s, want, wantV)
		if !sameOpen(other, want) {
			t.Errorf("Decode(%x): a change of one answer reached another one: %+v", s, other)
		}
	}
}

func TestP10_6RoundTrip(t *testing.T) {
	for _, o := range opens() {
		s, err := open.Encode(o)
		back, v := open.Decode(s)
		if err != api.OK || v != fine || !sameOpen(back, o) {
			t.Errorf("%+v: %x, %d, and back: %+v, %v", o, s, err, back, v)
		}
	}
}

// TestP10_6Taken: what Decode takes may be, and is read back from its own bytes.
func TestP10_6Taken(t *testing.T) {
	r := rand.New(rand.NewSource(106))
	for range 20000 {
		s := capped(anyCap(r), anyCap(r), anyCap(r), anyCap(r), anyCap(r))
		o, v := open.Decode(s)
		if v != fine {
			continue
		}
		laid, err := open.Encode(o)
		back, v := open.Decode(laid)
		if open.Check(o) != api.OK || err != api.OK || v != fine || !sameOpen(back, o) {
			t.Errorf("Decode(%x) = %+v, laid %x, %d, and back: %+v, %v", s, o, laid, err, back, v)
		}
	}
}
