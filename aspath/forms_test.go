package aspath_test

import (
	"fmt"
	"slices"
	"strings"
	"testing"

	"herald/api"
	"herald/aspath"
)

func wantEncode(t *testing.T, l []api.Seg, four bool, want string, wantErr api.Errno) {
	t.Helper()
	if s, err := aspath.Encode(l, four); s != want || err != wantErr {
		t.Errorf("Encode(%s, %t): %.99q, %d, not %.99q, %d", brief(l), four, s, err, want, wantErr)
	}
}

func wantDecode(t *testing.T, s string, four bool, want []api.Seg, wantErr api.Errno) {
	t.Helper()
	l, err := aspath.Decode(s, four)
	if err != wantErr || !same(l, want) || err != api.OK && l != nil {
		t.Errorf("Decode(%.99q, %t): %s, %d, not %s, %d", s, four, brief(l), err, brief(want), wantErr)
	}
}

func wantText(t *testing.T, l []api.Seg, want string, wantErr api.Errno) {
	t.Helper()
	if s, err := aspath.Text(l); s != want || err != wantErr {
		t.Errorf("Text(%s): %.99q, %d, not %.99q, %d", brief(l), s, err, want, wantErr)
	}
}

func wantParse(t *testing.T, s string, want []api.Seg, wantErr api.Errno) {
	t.Helper()
	l, err := aspath.Parse(s)
	if err != wantErr || !same(l, want) || err != api.OK && l != nil {
		t.Errorf("Parse(%.99q): %s, %d, not %s, %d", s, brief(l), err, brief(want), wantErr)
	}
}

var sizes = []bool{true, false}

func TestP4_3Examples(t *testing.T) {
	l := path(seq(1, 70000))
	wantEncode(t, l, true, "\x02\x02\x00\x00\x00\x01\x00\x01\x11\x70", api.OK)
	wantEncode(t, l, false, "\x02\x02\x00\x01\x5b\xa0", api.OK)
	wantDecode(t, "\x02\x01\x00\x00\x00\x00", true, nil, api.ErrForm)
	wantDecode(t, "\x02\x00", true, nil, api.ErrForm)
	wantDecode(t, "\x05\x01\x00\x01", false, nil, api.ErrForm)
	wantDecode(t, "\x02\x02\x00\x01", false, nil, api.ErrForm)
	wantDecode(t, "", true, nil, api.OK)
	wantDecode(t, "", false, nil, api.OK)
}

func TestP4_3EachPath(t *testing.T) {
	for _, four := range sizes {
		for _, l := range pool() {
			wantEncode(t, l, four, laid(l, four), api.OK)
		}
		for _, l := range wrong() {
			wantEncode(t, l, four, "", api.ErrArg)
		}
		for _, l := range small() {
			if mayBe(l) {
				wantEncode(t, l, four, laid(l, four), api.OK)
			} else {
				wantEncode(t, l, four, "", api.ErrArg)
			}
		}
	}
}

// TestP4_3EveryAS lays each number about the edge of two bytes, and its place.
func TestP4_3EveryAS(t *testing.T) {
	for as := uint32(1); as < 1<<17; as++ {
		two := as
		if as > 65535 {
			two = 23456
		}
		wantEncode(t, path(set(as)), false, string([]byte{1, 1, byte(two >> 8), byte(two)}), api.OK)
		wantEncode(t, path(set(as)), true, string([]byte{1, 1, 0, byte(as >> 16), byte(as >> 8), byte(as)}), api.OK)
	}
}

// TestP4_3EveryTwoBytes reads each AS of two bytes: 0 alone is none.
func TestP4_3EveryTwoBytes(t *testing.T) {
	wantDecode(t, "\x03\x01\x00\x00", false, nil, api.ErrForm)
	for as := uint32(1); as < 1<<16; as++ {
		wantDecode(t, string([]byte{3, 1, byte(as >> 8), byte(as)}), false, path(confSeq(as)), api.OK)
	}
}

// TestP4_3EveryKind reads each byte as a kind, at the beginning and behind another segment.
func TestP4_3EveryKind(t *testing.T) {
	for kind := range 256 {
		for _, four := range sizes {
			s := laid(path(api.Seg{Kind: kind, AS: []uint32{1, 2}}), four)
			ahead := path(seq(3))
			if kind >= 1 && kind <= 4 {
				one := api.Seg{Kind: kind, AS: []uint32{1, 2}}
				wantDecode(t, s, four, path(one), api.OK)
				wantDecode(t, laid(ahead, four)+s, four, path(ahead[0], one), api.OK)
				continue
			}
			wantDecode(t, s, four, nil, api.ErrForm)
			wantDecode(t, laid(ahead, four)+s, four, nil, api.ErrForm)
		}
	}
}

// TestP4_3EveryCount reads each count with just as many ASs, one fewer and one more.
func TestP4_3EveryCount(t *testing.T) {
	for n := range 256 {
		for _, four := range sizes {
			l := shrunk(path(confSet(some(n)...)))
			s := laid(l, four)
			if n == 0 {
				wantDecode(t, s, four, nil, api.ErrForm)
				continue
			}
			wantDecode(t, s, four, l, api.OK)
			wantDecode(t, s[:len(s)-1], four, nil, api.ErrForm)
			wantDecode(t, s[:len(s)-2], four, nil, api.ErrForm)
			wantDecode(t, s+"\x00\x01", four, nil, api.ErrForm)
			wantDecode(t, s+"\x00\x00\x00\x01", four, nil, api.ErrForm)
		}
	}
}

// TestP4_3Cut reads the bytes of paths cut at each place, and with others behind: only between two segments a path is left.
func TestP4_3Cut(t *testing.T) {
	for _, l := range pool() {
		for _, four := range sizes {
			s := laid(l, four)
			for n := 0; n <= len(s); n += 1 + n/100 {
				want, err := unlaid(s[:n], four)
				wantDecode(t, s[:n], four, want, err)
			}
			for _, behind := range []string{"\x00", "\x02", "\x02\x00", "\x02\x01", "\x02\x01\x00\x00\x00\x00", "\x02\x01\x00\x00\x00\x07", "\x02\x01\x00\x07", "\xff"} {
				want, err := unlaid(s+behind, four)
				wantDecode(t, s+behind, four, want, err)
			}
		}
	}
}

// TestP4_3AllShort reads all bytes of up to 7 of few kinds.
func TestP4_3AllShort(t *testing.T) {
	all := []string{""}
	for from := 0; from < len(all) && len(all[from]) < 7; from++ {
		for c := range 6 {
			all = append(all, all[from]+string([]byte{byte(c)}))
		}
	}
	for _, s := range all {
		for _, four := range sizes {
			want, err := unlaid(s, four)
			wantDecode(t, s, four, want, err)
		}
	}
}

func TestP4_3Many(t *testing.T) {
	for _, four := range sizes {
		for _, n := range []int{16, 17, 18, 256, 272, 100000} {
			l := slices.Repeat(path(seq(1)), n)
			if n == 16 {
				wantDecode(t, laid(l, four), four, l, api.OK)
			} else {
				wantDecode(t, laid(l, four), four, nil, api.ErrForm)
			}
		}
		for i := range 255 {
			l := path(seq(1), set(some(255)...))
			l[1].AS[i] = 0
			wantDecode(t, laid(l, four), four, nil, api.ErrForm)
		}
	}
}

func TestP4_4Examples(t *testing.T) {
	wantText(t, path(seq(1, 2), set(3)), "<1 2> {3}", api.OK)
	wantText(t, nil, "-", api.OK)
	wantParse(t, "(1)", path(confSeq(1)), api.OK)
	wantParse(t, "<>", nil, api.ErrForm)
	wantParse(t, "<1> ", nil, api.ErrForm)
	wantParse(t, "<01>", nil, api.ErrForm)
	wantText(t, path(seq(1, 2), set(1, 2), confSeq(1, 2), confSet(1, 2)), "<1 2> {1 2} (1 2) [1 2]", api.OK)
	wantParse(t, "<1 2> {1 2} (1 2) [1 2]", path(seq(1, 2), set(1, 2), confSeq(1, 2), confSet(1, 2)), api.OK)
	wantParse(t, "-", nil, api.OK)
}

func TestP4_4EachPath(t *testing.T) {
	for _, l := range pool() {
		wantText(t, l, text(l), api.OK)
		wantParse(t, text(l), l, api.OK)
	}
	for _, l := range wrong() {
		wantText(t, l, "", api.ErrArg)
	}
	for _, l := range small() {
		if mayBe(l) {
			wantText(t, l, text(l), api.OK)
		} else {
			wantText(t, l, "", api.ErrArg)
		}
	}
}

func TestP4_4WrongTexts(t *testing.T) {
	for _, s := range []string{
		"", " ", "--", "- ", " -", "-<1>", "- <1>", "<1> -", "<->", "<1 ->", "none", "\x00", "\n",
		"1", "1 2", "<1", "1>", "<", ">", "<1>>", "<<1>", "<<1>>", "<1}", "{1>", "(1]", "[1)", "<1 2} {3>", "{<1>}", ">1<", "()", "[]", "{}", "<> <1>", "<1> <>",
		"<1> ", " <1>", "<1>  <2>", "<1><2>", "<1>\t<2>", "<1>\n<2>", "<1>\n", "<1>,<2>", "<1> <2> ", "<1>\x00<2>", "<1> 2", "<1> 2 <3>",
		"< 1>", "<1 >", "<1  2>", "<1,2>", "<1\t2>", "<1\n2>", "< >", "<1 2 >", "<1\u00a02>",
		"<0>", "<1 0>", "<0 1>", "<00>", "<01>", "<1 02>", "<+1>", "<-1>", "<-0>", "<0x1>", "<1_0>", "<1.0>", "<1e1>", "<1.2>", "<0b1>", "<0o1>", "<٣>", "<１>", "<a>", "<1a>", "<a1>",
		"<4294967296>", "<4294967297>", "<04294967295>", "<42949672950>", "<18446744073709551615>", "<18446744073709551616>", "<18446744073709551617>", "<340282366920938463463374607431768211457>",
		"<1 4294967296>", "<" + strings.Repeat("9", 1000) + ">", "<" + strings.Repeat("0", 1000) + "1>",
	} {
		wantParse(t, s, nil, api.ErrForm)
	}
}

// TestP4_4Numbers reads numbers about the edges.
func TestP4_4Numbers(t *testing.T) {
	for _, v := range []uint64{0, 1, 9, 10, 255, 256, 23456, 65534, 65535, 65536, 1<<31 - 1, 1 << 31, 1<<32 - 2, 1<<32 - 1, 1 << 32, 1<<32 + 1, 1<<33 + 1, 1<<64 - 1} {
		for kind, pair := range pairs {
			s := fmt.Sprintf("%c%d%c", pair[0], v, pair[1])
			if v == 0 || v >= 1<<32 {
				wantParse(t, s, nil, api.ErrForm)
				continue
			}
			wantParse(t, s, path(api.Seg{Kind: kind, AS: []uint32{uint32(v)}}), api.OK)
		}
	}
}

// TestP4_4Counts reads texts of so many ASs, and of so many segments.
func TestP4_4Counts(t *testing.T) {
	for _, n := range []int{1, 2, 254, 255, 256, 257, 511, 512, 65537} {
		l := path(confSet(some(n)...))
		if n <= 255 {
			wantParse(t, text(l), l, api.OK)
		} else {
			wantParse(t, text(l), nil, api.ErrForm)
			wantParse(t, text(append(path(seq(1)), l...)), nil, api.ErrForm)
		}
	}
	for _, n := range []int{1, 2, 15, 16, 17, 18, 32, 256, 272, 65537} {
		l := slices.Repeat(path(set(7)), n)
		if n <= 16 {
			wantParse(t, text(l), l, api.OK)
			wantParse(t, text(l)+" ", nil, api.ErrForm)
			wantParse(t, text(l)+" x", nil, api.ErrForm)
		} else {
			wantParse(t, text(l), nil, api.ErrForm)
		}
	}
}

// TestP4_4AllShort reads all texts of up to 5 bytes that stand in paths' texts.
func TestP4_4AllShort(t *testing.T) {
	all := []string{""}
	for from := 0; from < len(all) && len(all[from]) < 5; from++ {
		for _, c := range "<>{}()[] 102-" {
			all = append(all, all[from]+string(c))
		}
	}
	for _, s := range all {
		want, err := untext(s)
		wantParse(t, s, want, err)
	}
}

// TestP4_4OneByte reads texts from which one byte was taken, or in which one was changed or put.
func TestP4_4OneByte(t *testing.T) {
	for _, s := range []string{"<1 2> {3}", "(10 20 4294967295) [7] <5>", "{1} {2}", "<4294967295>"} {
		for i := range len(s) + 1 {
			for _, c := range "<>{}()[] 0129-+a\n\x00" {
				texts := []string{s[:i] + string(c) + s[i:]}
				if i < len(s) {
					texts = append(texts, s[:i]+string(c)+s[i+1:], s[:i]+s[i+1:])
				}
				for _, x := range texts {
					want, err := untext(x)
					wantParse(t, x, want, err)
				}
			}
		}
	}
}

// TestP4_5Back: what is laid comes back, and what is taken is laid so again.
func TestP4_5Back(t *testing.T) {
	for _, l := range slices.Concat(pool(), small()) {
		if aspath.Check(l) != api.OK {
			continue
		}
		b, _ := aspath.Encode(l, true)
		wantDecode(t, b, true, l, api.OK)
		b, _ = aspath.Encode(l, false)
		wantDecode(t, b, false, shrunk(l), api.OK)
		s, _ := aspath.Text(l)
		wantParse(t, s, l, api.OK)
	}
}

// TestP4_5Taken: of any bytes and texts those that are taken are just those that are laid.
func TestP4_5Taken(t *testing.T) {
	var found [2]int
	for i := range 1 << 18 {
		b := make([]byte, 2+i%7)
		for k := range b {
			b[k] = byte(i>>(3*k)) % 8
		}
		for k, four := range sizes {
			l, err := aspath.Decode(string(b), four)
			if err != api.OK {
				continue
			}
			found[k]++
			wantEncode(t, l, four, string(b), api.OK)
		}
	}
	if found[0] == 0 || found[1] == 0 {
		t.Errorf("found %d", found)
	}
	for _, s := range []string{"-", "<1>", "{1 2}", "[4294967295 1]", "(1) (1) (1)", "<10 20> {30} <40>", "<1> <2> <3> <4> <5> <6> <7> <8> <9> <10> <11> <12> <13> <14> <15> <16>"} {
		l, err := aspath.Parse(s)
		if err != api.OK {
			t.Errorf("Parse(%q): %d", s, err)
		}
		wantText(t, l, s, api.OK)
	}
}
