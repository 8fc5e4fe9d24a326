package attr_test

import (
	"slices"
	"strings"
	"testing"

	"herald/api"
	"herald/attr"
)

func wantRead(t *testing.T, l []api.Raw, four, internal bool) {
	t.Helper()
	want, wantV := read(l, four, internal)
	got, v := attr.Read(l, four, internal)
	if v != wantV || show(got) != show(want) {
		t.Errorf("Read(%s, %t, %t): %s, %v, not %s, %v", brief(l), four, internal, brief(got), v, brief(want), wantV)
	}
}

// wantEachRead asks for all sizes of an AS, internal and external.
func wantEachRead(t *testing.T, l []api.Raw) {
	t.Helper()
	for _, four := range []bool{true, false} {
		for _, internal := range []bool{true, false} {
			wantRead(t, l, four, internal)
		}
	}
}

func raws(l ...api.Raw) []api.Raw { return l }

var (
	fine     = api.Verdict{}
	discard  = api.Verdict{Action: api.Discard}
	withdraw = api.Verdict{Action: api.Withdraw}
	twice    = api.Verdict{Action: api.Reset, Code: 3, Sub: 1}
	unknown  = api.Verdict{Action: api.Reset, Code: 3, Sub: 2}
)

func TestP6_4Examples(t *testing.T) {
	agg := api.Raw{Flags: 0xc0, Type: 7, Value: "1234567"}
	atomic := api.Raw{Flags: 0x40, Type: 6, Value: "a"}
	pref := api.Raw{Flags: 0x40, Type: 5, Value: "abc"}
	for i, x := range []struct {
		l        []api.Raw
		internal bool
		want     api.Verdict
	}{
		{raws(api.Raw{Flags: 0x40, Type: 1, Value: "\x03"}), true, withdraw},
		{raws(api.Raw{Flags: 0x80, Type: 1, Value: "\x01"}), true, withdraw},
		{raws(api.Raw{Flags: 0x40, Type: 1, Value: "\x02"}, api.Raw{Flags: 0x40, Type: 1, Value: "\x03"}), true, fine},
		{raws(pref), true, withdraw},
		{raws(pref), false, discard},
		{raws(api.Raw{Flags: 0x40, Type: 99}), true, unknown},
		{raws(api.Raw{Flags: 0x80, Type: 99}), true, fine},
		{raws(api.Raw{Type: 14}, api.Raw{Type: 14}), true, twice},
		{raws(agg), true, discard},
		{raws(atomic), true, discard},
		{raws(agg, atomic, api.Raw{Flags: 0x80, Type: 4, Value: "12345"}), true, withdraw},
	} {
		a, v := attr.Read(x.l, true, x.internal)
		want := api.Attrs{}
		if i == 2 {
			want.Origin = 2
		}
		if v != x.want || show(a) != show(want) {
			t.Errorf("%d: %s, %v", i, brief(a), v)
		}
	}
	if a, v := attr.Read(nil, true, true); v != fine || show(a) != show(api.Attrs{}) {
		t.Errorf("nothing: %s, %v", brief(a), v)
	}
}

// right has for each Type a value that is as the table says, of four bytes an AS.
var right = map[uint8]string{
	1: "\x02", 2: "\x02\x01\x00\x00\x00\x07", 3: "\x0a\x00\x00\x01", 4: "\x00\x00\x00\x05", 5: "\x00\x00\x00\x64", 6: "", 7: "\x00\x01\x00\x00\x00\x00\x00\x09",
	8: "\x00\x00\x00\x02\x00\x00\x00\x01", 9: "\x00\x00\x00\x00", 10: "\x00\x00\x00\x04\x00\x00\x00\x03",
	16: "\x00\x02\x00\x01\x00\x00\x00\x05", 32: "\x00\x00\x00\x01\x00\x00\x00\x02\x00\x00\x00\x03",
}

// TestP6_4EachFlags reads each Type with all Flags, a right value and a wrong one.
func TestP6_4EachFlags(t *testing.T) {
	for typ := range 256 {
		for flags := range 256 {
			for _, value := range []string{right[uint8(typ)], "wrong"} {
				one := api.Raw{Flags: uint8(flags), Type: uint8(typ), Value: value}
				wantRead(t, raws(one), true, true)
				wantRead(t, raws(one), true, false)
			}
		}
	}
}

// TestP6_4Lengths reads values of each length, of bytes of several kinds.
func TestP6_4Lengths(t *testing.T) {
	rising := ""
	for i := range 1100 {
		rising += string([]byte{byte(i >> 8), byte(i)})
	}
	for _, typ := range types {
		for n := range 1060 {
			for _, value := range []string{strings.Repeat("\x00", n), strings.Repeat("\x01", n), strings.Repeat("\xff", n), rising[:n], rising[2 : 2+n]} {
				if n > 40 && n%4 != 0 && n%12 != 1 {
					continue
				}
				wantEachRead(t, raws(api.Raw{Flags: bitsOf[typ], Type: typ, Value: value}))
			}
		}
	}
}

// values has for each Type values that stand near an edge, right ones and wrong ones.
func values() map[uint8][]string {
	l := map[uint8][]string{
		1: {"", "\x00", "\x01", "\x02", "\x03", "\x04", "\x80", "\xff", "\x00\x00", "\x00\x01", "\x01\x00"},
		3: {"", "\x00", "abc", "\x00\x00\x00\x00", "\xff\xff\xff\xff", "abcd", "abcde", "0123456789abcdef"},
		6: {"", "\x00", "\x01", "abcd"},
		2: {"", "\x02", "\x02\x00", "\x02\x01", "\x00\x01\x00\x01", "\x05\x01\x00\x01", "\x05\x01\x00\x00\x00\x01", "\x02\x01\x00\x00", "\x02\x01\x00\x00\x00\x00", "\x02\x01\x00\x00\x00\x01\x00"},
		7: {"", "\x00\x01", "\x00\x00\x00\x00\x00\x01", "\x00\x00\x00\x00\x00\x00\x00\x01", "\x00\x01\x00\x00\x00\x00", "\x00\x01\x00\x00\x00\x00\x00\x00", "\x01\x00\x00\x00\x00\x00\x00\x00", "\xff\xff\xff\xff\xff\xff", "\xff\xff\xff\xff\xff\xff\xff\xff", "1234567", "12345", "123456789"},
	}
	for _, four := range []bool{true, false} {
		size := 2
		if four {
			size = 4
		}
		one := "\x03\x01" + be(7, size)
		l[2] = append(l[2], one, one+one, one[:len(one)-1], one+"\x00", one+"\x02", one+"\x04\x01"+be(1<<15, size), one+"\x04\x02"+be(1, size), one+"\x04\x02"+be(1, size)+be(0, size),
			strings.Repeat(one, 16), strings.Repeat(one, 17), "\x01\xff"+strings.Repeat(be(9, size), 255), "\x01\xff"+strings.Repeat(be(9, size), 254), "\x01\xff"+strings.Repeat(be(9, size), 256))
	}
	for _, typ := range []uint8{4, 5, 9} {
		for n := range 10 {
			l[typ] = append(l[typ], "\x00\x01\x02\x03\x04\x05\x06\x07\x08\x09"[:n], strings.Repeat("\xff", n), strings.Repeat("\x00", n))
		}
	}
	for typ, size := range map[uint8]int{8: 4, 10: 4, 16: 8, 32: 12} {
		many := func(n int) string {
			s := ""
			for i := range n {
				s += be(uint64(1000-i), 8) + strings.Repeat("\x00", 4)
			}
			out := ""
			for _, p := range pieces(s, 12) {
				if size == 4 {
					p = p[4:8]
				}
				out += p[:size]
			}
			return out
		}
		for _, n := range []int{0, 1, 2, 31, 32, 33, 63, 64, 65, 66, 128} {
			s := many(n)
			l[typ] = append(l[typ], s, s+"\x00", s+s, s+strings.Repeat("\x00", size-1), s+strings.Repeat("\x00", size), strings.Repeat("\xff", size)+s)
			if s != "" {
				l[typ] = append(l[typ], s[1:], s[:len(s)-1])
			}
		}
	}
	return l
}

// TestP6_4Values reads each value alone, behind ones of all other Types, and with its Flags wrong.
func TestP6_4Values(t *testing.T) {
	for typ, l := range values() {
		var others []api.Raw
		for _, other := range types {
			if other != typ {
				others = append(others, api.Raw{Flags: bitsOf[other], Type: other, Value: right[other]})
			}
		}
		for _, value := range l {
			one := api.Raw{Flags: bitsOf[typ], Type: typ, Value: value}
			wantEachRead(t, raws(one))
			wantEachRead(t, append(slices.Clone(others), one))
			for _, bits := range []uint8{0, 0x40, 0x80, 0xc0} {
				one.Flags = bits | 0x3f
				wantEachRead(t, raws(one))
			}
		}
	}
}

// TestP6_4EachByte changes each byte of a full list's values.
func TestP6_4EachByte(t *testing.T) {
	for _, four := range []bool{true, false} {
		l := written(full(), four)
		for i, raw := range l {
			for k := range len(raw.Value) {
				for _, c := range []byte{0, 1, 2, 3, 5, 0x7f, 0x80, 0xff} {
					changed := slices.Clone(l)
					b := []byte(raw.Value)
					b[k] = c
					changed[i].Value = string(b)
					wantRead(t, changed, four, true)
					wantRead(t, changed, four, false)
				}
			}
		}
	}
}

// kinds has raw attributes of all kinds: each Type right, wrong, with wrong Flags, those that are not known, those that are passed by.
func kinds() []api.Raw {
	var l []api.Raw
	for _, typ := range []uint8{1, 2, 4, 5, 6, 7, 10, 32} {
		l = append(l,
			api.Raw{Flags: bitsOf[typ], Type: typ, Value: right[typ]},
			api.Raw{Flags: bitsOf[typ] | 0x3f, Type: typ, Value: "wrong"},
			api.Raw{Flags: bitsOf[typ] ^ 0x80, Type: typ, Value: right[typ]},
			api.Raw{Flags: bitsOf[typ] ^ 0x40, Type: typ, Value: "wrong"})
	}
	for _, typ := range []uint8{0, 11, 14, 15, 99, 255} {
		for _, flags := range []uint8{0x00, 0x40, 0x80, 0xc0} {
			l = append(l, api.Raw{Flags: flags, Type: typ, Value: "x"})
		}
	}
	return l
}

// TestP6_4Together reads all pairs and triples: of each line ahead of the others, of verdicts of all kinds in every order, of Types that come again.
func TestP6_4Together(t *testing.T) {
	l := kinds()
	for _, a := range l {
		for _, b := range l {
			wantRead(t, raws(a, b), true, true)
			wantRead(t, raws(a, b), true, false)
			for _, c := range l {
				wantRead(t, raws(a, b, c), true, true)
				wantRead(t, raws(a, b, c), true, false)
			}
		}
	}
}

// TestP6_4Lines: of an attribute of which several lines hold, the first one counts.
func TestP6_4Lines(t *testing.T) {
	of := func(flags, typ uint8, value string) api.Raw { return api.Raw{Flags: flags, Type: typ, Value: value} }
	origin := of(0x40, 1, "\x01")
	for i, x := range []struct {
		l        []api.Raw
		internal bool
		want     api.Verdict
	}{
		{raws(of(0, 14, "")), true, fine}, // 1 ahead of 3
		{raws(of(0, 15, "")), true, fine},
		{raws(of(0, 14, ""), of(0, 15, "")), true, fine},
		{raws(of(0x80, 14, "a"), of(0x80, 14, "a")), true, twice}, // 1 ahead of 2
		{raws(of(0x80, 15, "a"), origin, of(0, 15, "b")), false, twice},
		{raws(origin, of(0x80, 1, "")), true, fine}, // 2 ahead of 5 and 6
		{raws(of(0x40, 1, "x"), origin), true, withdraw},
		{raws(of(0x80, 99, ""), of(0x40, 99, "")), true, fine}, // 2 ahead of 3
		{raws(of(0x40, 99, ""), of(0x80, 99, "")), true, unknown},
		{raws(of(0x40, 5, "abcd"), of(0x80, 5, "")), true, fine},
		{raws(of(0x40, 5, "abcd"), of(0x80, 5, "")), false, discard},
		{raws(of(0x00, 5, "")), false, discard}, // 4 ahead of 5 and 6
		{raws(of(0xc0, 9, "abcd")), false, discard},
		{raws(of(0x80, 10, "a")), false, discard},
		{raws(of(0x40, 5, "abcd")), false, discard},
		{raws(of(0x00, 4, "abcd")), false, withdraw},
		{raws(of(0xc0, 6, "")), true, withdraw}, // 5 ahead of 6: Flags are worse than a value
		{raws(of(0xc0, 6, "a")), true, withdraw},
		{raws(of(0x40, 7, "a")), true, withdraw},
		{raws(of(0x40, 6, "a")), true, discard},
		{raws(of(0xc0, 7, "a"), of(0xc0, 7, right[7])), true, discard},
		{raws(of(0x40, 99, ""), of(0, 14, ""), of(0, 14, "")), true, unknown}, // the first Reset
		{raws(of(0, 14, ""), of(0, 14, ""), of(0x40, 99, "")), true, twice},
		{raws(of(0, 14, ""), of(0x40, 99, ""), of(0, 14, "")), true, unknown},
		{raws(of(0x40, 1, "x"), of(0x40, 99, ""), of(0x40, 6, "a")), true, unknown},
	} {
		if a, v := attr.Read(x.l, true, x.internal); v != x.want || v.Action >= api.Withdraw && show(a) != show(api.Attrs{}) {
			t.Errorf("%d: %s, %v, not %v", i, brief(a), v, x.want)
		}
	}
}

// TestP6_4LeftOut: what is left out is zero, and all else is there.
func TestP6_4LeftOut(t *testing.T) {
	l := written(full(), true)
	l[5].Value, l[6].Value = "a", "\x00\x00\x00\x00\x00\x00\x00\x01"
	for _, internal := range []bool{true, false} {
		want := with(full(), func(a *api.Attrs) {
			a.Atomic, a.AggAS, a.AggId = false, 0, 0
			if !internal {
				a.HasPref, a.Pref, a.HasOrig, a.Orig, a.Clusters = false, 0, false, 0, nil
			}
		})
		a, v := attr.Read(l, true, internal)
		wantAttrs(t, "what is left", a, want)
		if v != discard {
			t.Errorf("%v", v)
		}
	}
}

// TestP6_4Comms: communities are read in any order, each once.
func TestP6_4Comms(t *testing.T) {
	a, v := attr.Read(raws(
		api.Raw{Flags: 0xc0, Type: 32, Value: be(2, 4) + be(1, 8) + be(1, 4) + be(9, 8) + be(2, 4) + be(1, 8)},
		api.Raw{Flags: 0xc0, Type: 16, Value: be(3, 8) + be(1<<63, 8) + be(3, 8) + be(1, 8)},
		api.Raw{Flags: 0xc0, Type: 8, Value: be(3, 4) + be(1, 4) + be(3, 4) + be(2, 4)},
		api.Raw{Flags: 0x80, Type: 10, Value: be(3, 4) + be(1, 4) + be(3, 4)},
	), false, true)
	wantAttrs(t, "Read", a, api.Attrs{
		Comms: []uint32{1, 2, 3}, Exts: []uint64{1, 3, 1 << 63}, Larges: []api.Large{{Global: 1, B: 9}, {Global: 2, B: 1}}, Clusters: []uint32{3, 1, 3},
	})
	if v != fine {
		t.Errorf("%v", v)
	}
}

// TestP6_4Many reads a long list: all behind the first ones come again.
func TestP6_4Many(t *testing.T) {
	l := slices.Repeat(written(full(), true), 10000)
	a, v := attr.Read(l, true, true)
	wantAttrs(t, "many", a, full())
	if v != fine {
		t.Errorf("many: %v", v)
	}
	a, v = attr.Read(append(l, api.Raw{Type: 14}, api.Raw{Type: 14}), true, true)
	wantAttrs(t, "a Reset behind many", a, api.Attrs{})
	if v != twice {
		t.Errorf("a Reset behind many: %v", v)
	}
}

func TestP6_5Read(t *testing.T) {
	for _, a := range pool() {
		l, _ := attr.Write(a, true)
		got, v := attr.Read(l, true, true)
		want := with(a, func(a *api.Attrs) {
			if len(a.Next) == 16 {
				a.Next = ""
			}
		})
		wantAttrs(t, "Read of Write", got, want)
		if v != fine || !attr.Same(got, want) || attr.Check(got) != api.OK {
			t.Errorf("%s: %v", brief(got), v)
		}
		l, _ = attr.Write(a, false)
		got, v = attr.Read(l, false, true)
		narrow(&want)
		wantAttrs(t, "Read of Write, two bytes an AS", got, want)
		if v != fine {
			t.Errorf("two bytes an AS: %v", v)
		}
	}
}

// narrow puts 23456 for each AS that does not go into two bytes.
func narrow(a *api.Attrs) {
	if a.AggAS > 65535 {
		a.AggAS = 23456
	}
	for _, seg := range a.Path {
		for i, as := range seg.AS {
			if as > 65535 {
				seg.AS[i] = 23456
			}
		}
	}
}

// turned tells all orders of a list.
func turned(l []api.Raw, tell func(l []api.Raw)) {
	if len(l) == 0 {
		tell(nil)
		return
	}
	for i := range l {
		turned(slices.Delete(slices.Clone(l), i, i+1), func(rest []api.Raw) {
			tell(append([]api.Raw{l[i]}, rest...))
		})
	}
}

// TestP6_6Turned reads lists of unlike Types in all orders, verdicts of all kinds among them.
func TestP6_6Turned(t *testing.T) {
	of := func(flags, typ uint8, value string) api.Raw { return api.Raw{Flags: flags, Type: typ, Value: value} }
	good := func(typ uint8) api.Raw { return of(bitsOf[typ], typ, right[typ]) }
	for _, l := range [][]api.Raw{
		{good(1), good(2), good(3), good(4), good(5), good(6)},
		{good(7), good(8), good(9), good(10), good(16), good(32)},
		{good(1), good(5), of(0x40, 6, "a"), of(0xc0, 7, ""), good(8), of(0x80, 99, "")},
		{good(1), good(5), of(0x40, 6, "a"), of(0x40, 3, ""), of(0, 14, ""), of(0, 15, "")},
		{good(1), of(0xc0, 7, ""), of(0x40, 3, ""), of(0x40, 99, ""), of(0, 14, "")},
		{good(2), of(0x40, 98, ""), of(0x40, 99, ""), of(0, 14, ""), of(0, 14, "")},
	} {
		for _, internal := range []bool{true, false} {
			want, wantV := attr.Read(l, true, internal)
			turned(l, func(l []api.Raw) {
				got, v := attr.Read(l, true, internal)
				if show(got) != show(want) || v.Action != wantV.Action {
					t.Errorf("Read(%s): %s, %v, not %s, %v", brief(l), brief(got), v, brief(want), wantV)
				}
				wantRead(t, l, true, internal)
			})
		}
	}
	for _, a := range pool() {
		l := written(a, true)
		want, wantV := attr.Read(l, true, true)
		slices.Reverse(l)
		got, v := attr.Read(l, true, true)
		wantAttrs(t, "reversed", got, want)
		if v != wantV {
			t.Errorf("reversed: %v", v)
		}
	}
}

// TestP6_6Again puts each attribute once more at each place behind it.
func TestP6_6Again(t *testing.T) {
	lists := [][]api.Raw{written(full(), true), written(greatest(), true)}
	for _, one := range kinds() {
		l := written(full(), true)
		lists = append(lists, append(slices.DeleteFunc(l, func(x api.Raw) bool { return x.Type == one.Type }), one))
	}
	for _, l := range lists {
		for _, internal := range []bool{true, false} {
			want, wantV := attr.Read(l, true, internal)
			for i, raw := range l {
				if raw.Type == 14 || raw.Type == 15 {
					continue
				}
				for k := i + 1; k <= len(l); k++ {
					got, v := attr.Read(slices.Insert(slices.Clone(l), k, raw), true, internal)
					wantAttrs(t, "again", got, want)
					if v != wantV {
						t.Errorf("%s again: %v, not %v", brief(raw), v, wantV)
					}
				}
			}
		}
	}
}
