package sets_test

import (
	"math"
	"math/rand"
	"regexp"
	"slices"
	"strconv"
	"strings"
	"testing"

	"herald/api"
	"herald/sets"
)

func TestP15_3Examples(t *testing.T) {
	wantMatch(t, pat("1 . *"), asList("1 2"), true)
	wantMatch(t, pat("1 . *"), asList("1"), false)
	wantMatch(t, pat("* 3 *"), asList("1 3 2"), true)
	wantMatch(t, nil, nil, true)
	wantMatch(t, pat("*"), nil, true)
	wantMatch(t, nil, asList("1"), false)
}

func TestP15_3ByHand(t *testing.T) {
	for _, c := range []struct {
		pattern, l string
		is         bool
	}{
		{"", "1 2", false}, {"", "0", false},
		{"*", "1", true}, {"*", "1 2 3", true}, {"* *", "", true}, {"* *", "1", true},
		{".", "", false}, {".", "9", true}, {".", "0", true}, {".", "1 2", false}, {". .", "1", false}, {". .", "1 1", true},
		{"5", "5", true}, {"5", "6", false}, {"5", "", false}, {"5", "5 5", false}, {"5 6", "5 6", true}, {"5 6", "6 5", false},
		{"* 3", "3 1", false}, {"* 3", "3 1 3", true}, {"* 3", "3", true}, {"* 3", "", false},
		{"3 *", "3", true}, {"3 *", "3 4 5", true}, {"3 *", "4 3", false}, {"3 *", "", false},
		{"* 1 2 *", "1 1 2", true}, {"* 1 2 *", "1 3 2", false}, {"* 1 * 1 * 1 *", "1 1", false}, {"* 1 * 1 * 1 *", "1 1 1", true},
		{"1 * 1", "1", false}, {"1 * 1", "1 1", true}, {"* 1 2", "1 2 1 2", true}, {"* 1 2", "1 2 1 2 1", false},
		{"* . *", "", false}, {"* . *", "1", true}, {"* . . *", "1", false}, {". * .", "1 2", true}, {". * .", "1", false},
		{"* 1 . 2 *", "1 1 2 2", true}, {"* 1 . 2 *", "1 2 1 2", false}, {"* 1 . 2", "1 1 2 1 2", false}, {"* 1 . 2", "9 1 1 2", true},
		{"4294967295", "4294967295", true}, {"4294967295", "4294967294", false}, {"2147483648", "2147483648", true}, {"65536", "0", false}, {"1", "65537", false}, {"1", "257", false},
	} {
		wantMatch(t, pat(c.pattern), asList(c.l), c.is)
	}
}

// Empty lists may be nil or empty.
func TestP15_3Empty(t *testing.T) {
	for _, pattern := range [][]api.Atom{nil, {}} {
		for _, l := range [][]uint32{nil, {}} {
			wantMatch(t, pattern, l, true)
			wantMatch(t, repeat(many, 3), l, true)
			wantMatch(t, pat("1"), l, false)
		}
	}
}

// All patterns of up to five atoms, all lists of up to five ASs: by all ways to cut them.
func TestP15_3AllShort(t *testing.T) {
	all := lists([]uint32{1, 2, 0}, 5)
	for _, pattern := range lists([]api.Atom{as(1), as(2), one, many}, 5) {
		for _, l := range all {
			want := cuts(pattern, l)
			if sets.Match(pattern, l) != want || reaches(pattern, l) != want {
				t.Fatalf("Match(%v, %v): %v, want %v", pattern, l, !want, want)
			}
		}
	}
}

// Longer ones are held against the places that can be reached, and against a machine of the library's.
func TestP15_3Model(t *testing.T) {
	r := rand.New(rand.NewSource(3))
	has := 0
	for i := range 30000 {
		pattern, l := randomPattern(r, most, i%10 == 0), randomList(r, 40)
		if i%3 == 0 {
			pattern = randomPattern(r, 8, i%10 == 0)
		}
		if i%2 == 0 {
			l = fitting(r, pattern)
		}
		want := reaches(pattern, l)
		if want {
			has++
		}
		wantMatch(t, pattern, l, want)
		if i%8 == 0 && want != byForm(pattern, l) {
			t.Fatalf("the models do not agree of %v, %v", pattern, l)
		}
	}
	if has < 8000 || has > 22000 {
		t.Errorf("%d of the lists are matched", has)
	}
}

func randomList(r *rand.Rand, most int) []uint32 {
	var l []uint32
	for range r.Intn(most + 1) {
		l = append(l, uint32(r.Intn(4)))
	}
	return l
}

// fitting is a list that the pattern matches, or nearly.
func fitting(r *rand.Rand, pattern []api.Atom) []uint32 {
	var l []uint32
	for _, a := range pattern {
		switch a.Kind {
		case api.AtomAS:
			l = append(l, a.AS)
		case api.AtomAny:
			l = append(l, uint32(r.Intn(4)))
		case api.AtomMany:
			l = append(l, randomList(r, 4)...)
		}
	}
	if len(l) > 0 && r.Intn(4) == 0 {
		l[r.Intn(len(l))] = uint32(r.Intn(4))
	}
	if len(l) > 0 && r.Intn(8) == 0 {
		l = slices.Delete(l, 0, 1)
	}
	return l
}

// byForm is matching by a regular expression over the list's text.
func byForm(pattern []api.Atom, l []uint32) bool {
	form, text := `\A`, ""
	for _, a := range pattern {
		switch {
		case !rightAtom(a):
			return false
		case a.Kind == api.AtomAS:
			form += strconv.Itoa(int(a.AS)) + ","
		case a.Kind == api.AtomAny:
			form += "[0-9]+,"
		default:
			form += "([0-9]+,)*"
		}
	}
	for _, n := range l {
		text += strconv.Itoa(int(n)) + ","
	}
	return regexp.MustCompile(form + `\z`).MatchString(text)
}

// A pattern that may not be matches nothing, wherever the wrong atom stands.
func TestP15_3WrongAtoms(t *testing.T) {
	all := [][]uint32{nil, {0}, {1}, {math.MaxUint32}, {1 << 31}, {0, 0}, {1, 1}, {1, 0, 1}, {1, 1, 1}, {math.MaxUint32, 1, 1}}
	for _, a := range wrongAtoms() {
		for _, l := range all {
			wantMatch(t, []api.Atom{a}, l, false)
			wantMatch(t, []api.Atom{a, many}, l, false)
			wantMatch(t, []api.Atom{many, a}, l, false)
			wantMatch(t, []api.Atom{many, a, many}, l, false)
			wantMatch(t, []api.Atom{one, a, one}, l, false)
			wantMatch(t, append(repeat(many, most-1), a), l, false)
		}
	}
}

// 64 atoms may be, 65 may not, of whatever kind they are.
func TestP15_3HowManyAtoms(t *testing.T) {
	for _, n := range []int{0, 1, most - 1, most, most + 1, most + 2, 2 * most, 256, 257, 256 + most, 1<<16 + 1} {
		l := repeat(uint32(1), n)
		for _, a := range []api.Atom{as(1), one, many} {
			wantMatch(t, repeat(a, n), l, n <= most)
			wantText(t, repeat(a, n), textOf(repeat(a, n)), errIf(n > most, api.ErrArg))
		}
		wantMatch(t, repeat(many, n), nil, n <= most)
		wantMatch(t, repeat(one, n), append(l, 1), false)
	}
}

func errIf(wrong bool, err api.Errno) api.Errno {
	if wrong {
		return err
	}
	return api.OK
}

// Many AtomMany over long lists: what is tried must not grow beyond all bounds.
func TestP15_3ManyOverLong(t *testing.T) {
	long := repeat(uint32(1), 20000)
	wantMatch(t, repeat(many, most), long, true)
	wantMatch(t, append(repeat(many, most-1), as(2)), long, false)
	wantMatch(t, append([]api.Atom{as(2)}, repeat(many, most-1)...), long, false)
	wantMatch(t, append(repeat(many, most-1), as(1)), long, true)
	wantMatch(t, append(repeat(many, most-1), one), long, true)
	for _, words := range []string{"* 1 ", "* . ", "* . 1 ", "* 1 1 1 ", "* 1 . * "} {
		pattern := pat(strings.Repeat(words, most/2))[:most-1]
		for _, last := range []api.Atom{many, one, as(1), as(2)} {
			wantMatch(t, append(pattern[:len(pattern):len(pattern)], last), long, last != as(2))
			wantMatch(t, append([]api.Atom{last}, pattern...), long, last != as(2) && reaches(append([]api.Atom{last}, pattern...), long))
		}
	}
}

// What is wanted stands at the end of a long list alone, or one too few times.
func TestP15_3LongLists(t *testing.T) {
	pattern := pat(strings.Repeat("* 7 ", most/2))
	for _, times := range []int{most/2 - 1, most / 2, most/2 + 1} {
		l := append(repeat(uint32(1), 20000), repeat(uint32(7), times)...)
		wantMatch(t, pattern, l, times >= most/2)
		wantMatch(t, pattern, append(l, 1), false)
		slices.Reverse(l)
		wantMatch(t, pattern, l, false)
		wantMatch(t, append(pattern[:most-1:most-1], many), l, times >= most/2-1)
	}
	l := repeat(uint32(3), 1<<20)
	wantMatch(t, pat("*"), l, true)
	wantMatch(t, pat("* 3"), l, true)
	wantMatch(t, pat("3 * . 3"), l, true)
	wantMatch(t, pat("* 4 *"), l, false)
	wantMatch(t, pat("3 3"), l, false)
	wantMatch(t, repeat(one, most), l, false)
	wantMatch(t, pat("* 3 * 3 * 3 * 4"), l, false)
}

// A list of a full path's length, in a set of full patterns.
func TestP15_3FullSet(t *testing.T) {
	pattern := pat(strings.Repeat("* 1 ", most/2-1) + "* 2")
	s := pathSet(repeat(pattern, most)...)
	full := repeat(api.Seg{Kind: api.SegSeq, AS: repeat(uint32(1), 255)}, 16)
	wantPath(t, s, full, false)
	full[15].AS = append(repeat(uint32(1), 254), 2)
	wantPath(t, s, full, true)
}

// Match has no memory: what it found of one list does not count for another one.
func TestP15_3Again(t *testing.T) {
	pattern := pat("* 1 * 2 * 3")
	for range 3 {
		wantMatch(t, pattern, asList("1 2 3"), true)
		wantMatch(t, pattern, asList("3 2 1"), false)
		wantMatch(t, pattern, asList("9 1 9 9 2 2 3"), true)
		wantMatch(t, pat("* 3 * 2 * 1"), asList("3 2 1"), true)
	}
}

// textOf is the model of a pattern's text; "" of one that may not be.
func textOf(pattern []api.Atom) string {
	if !rightPattern(pattern) {
		return ""
	}
	if len(pattern) == 0 {
		return "-"
	}
	text := ""
	for i, a := range pattern {
		if i > 0 {
			text += " "
		}
		text += []string{1: strconv.Itoa(int(a.AS)), 2: ".", 3: "*"}[a.Kind]
	}
	return text
}

func TestP15_4Examples(t *testing.T) {
	wantText(t, []api.Atom{as(1), one, many}, "1 . *", api.OK)
	wantParse(t, "1 . *", []api.Atom{as(1), one, many}, api.OK)
	for _, s := range []string{"", "0", "01", "1  2", "4294967296"} {
		wantParse(t, s, nil, api.ErrForm)
	}
}

func TestP15_4Texts(t *testing.T) {
	for text, pattern := range map[string][]api.Atom{
		"-": nil, ".": {one}, "*": {many}, "1": {as(1)}, "9": {as(9)}, "10": {as(10)}, "100": {as(100)},
		"4294967295": {as(math.MaxUint32)}, "4294967290": {as(4294967290)}, "3999999999": {as(3999999999)}, "1000000000": {as(1e9)}, "999999999": {as(999999999)}, "2147483648": {as(1 << 31)},
		"* *": {many, many}, ". .": {one, one}, "1 1": {as(1), as(1)}, "* 65000 . 7": {many, as(65000), one, as(7)}, "7 * .": {as(7), many, one},
	} {
		wantText(t, pattern, text, api.OK)
		wantParse(t, text, pattern, api.OK)
	}
	wantText(t, []api.Atom{}, "-", api.OK)
}

func TestP15_4WrongAtoms(t *testing.T) {
	for _, a := range wrongAtoms() {
		wantText(t, []api.Atom{a}, "", api.ErrArg)
		wantText(t, []api.Atom{a, many}, "", api.ErrArg)
		wantText(t, []api.Atom{as(1), a}, "", api.ErrArg)
		wantText(t, append(repeat(one, most-1), a), "", api.ErrArg)
	}
}

func TestP15_4NoTexts(t *testing.T) {
	for _, s := range []string{" ", "  ", " 1", "1 ", " -", "- ", "--", "- -", "- 1", "1 -", "-1", "+1", "1-", "* -", "-*", "..", "**", ".*", "*.", "1.", ".1", "1*", "*1", "1.2", "1,2", "1, 2", "1  .", ".  *", "1 . ", " 1 .", "1\t2", "1\n2", "1\n", "\n1", "\n", "1\r", "\t", "1\u00a02", "1\u30002", "x", "1 x", "x 1", "a1", "1a", "0x1", "0b1", "0o1", "1_0", "1e3", "1.0", "00", "000", "0 1", "1 0", "* 0", "0 *", "01 2", "1 02", "00000000001", "0000000001", "4294967296", "4294967300", "4294967295 4294967296", "9999999999", "10000000000", "42949672950", "18446744073709551615", "18446744073709551616", "18446744073709551617", "1\x00", "\x00", "\x001", "1 \x00", "\xff", "１", "١", "·", "•", "＊", "−", "(1)", "<1>", "{1}", "[1]", "\"1\"", "1:2", "any", "many", "igp", "?", "+", "^1", "1$", strings.Repeat(" ", 100), strings.Repeat("1", 11), strings.Repeat("9", 100)} {
		wantParse(t, s, nil, api.ErrForm)
	}
}

// Each byte alone, ahead of a word, behind one, between two: only what is written so is taken.
func TestP15_4EachByte(t *testing.T) {
	for c := range 256 {
		b := string([]byte{byte(c)})
		for _, s := range []string{b, b + "7", "7" + b, "7" + b + "7", b + " 7", "7 " + b, "." + b + "*", "* " + b + " ."} {
			wantParsed(t, s)
		}
	}
}

var textForm = regexp.MustCompile(`\A(-|([1-9][0-9]{0,9}|[.*])( ([1-9][0-9]{0,9}|[.*])){0,63})\z`)

// wantParsed holds Parse of any text against a form of the whole, and the numbers' bound.
func wantParsed(t *testing.T, s string) bool {
	t.Helper()
	ok := textForm.MatchString(s)
	for _, word := range strings.Split(s, " ") {
		ok = ok && (len(word) < 10 || len(word) == 10 && word <= "4294967295")
	}
	if !ok {
		wantParse(t, s, nil, api.ErrForm)
		return false
	}
	wantParse(t, s, pat(s), api.OK)
	return true
}

// Texts of all letters that patterns have, up to five of them, and of some that they have not.
func TestP15_4AllShort(t *testing.T) {
	right := 0
	for _, l := range lists([]byte("01. *-9"), 5) {
		if wantParsed(t, string(l)) {
			right++
		}
	}
	if right < 500 {
		t.Errorf("only %d are texts", right)
	}
}

// Numbers about all edges, alone and behind others.
func TestP15_4Numbers(t *testing.T) {
	for _, n := range []uint64{0, 1, 2, 9, 10, 11, 99, 100, 255, 256, 1<<16 - 1, 1 << 16, 999999999, 1e9, 1<<31 - 1, 1 << 31, 1<<32 - 2, 1<<32 - 1, 1 << 32, 1<<32 + 1, 1<<33 - 1, 1 << 33, 9999999999, 1e10, 1<<32 + 1e9, 1<<63 - 1, 1 << 63, math.MaxUint64} {
		word := strconv.FormatUint(n, 10)
		pattern, want := []api.Atom{as(uint32(n))}, api.OK
		if n == 0 || n > 1<<32-1 {
			pattern, want = nil, api.ErrForm
		}
		wantParse(t, word, pattern, want)
		wantParse(t, "0"+word, nil, api.ErrForm)
		wantParse(t, "-"+word, nil, api.ErrForm)
		if want == api.OK {
			wantParse(t, "* "+word+" .", []api.Atom{many, pattern[0], one}, api.OK)
			wantText(t, pattern, word, api.OK)
		} else {
			wantParse(t, "* "+word+" .", nil, api.ErrForm)
		}
	}
}

// 64 atoms are a pattern's text, 65 are not; nor is what is longer by far.
func TestP15_4HowManyAtoms(t *testing.T) {
	for _, n := range []int{1, 2, most - 1, most, most + 1, 2 * most, 256, 256 + most, 1 << 17} {
		for _, word := range []string{"1", ".", "*", "4294967295"} {
			s := strings.Repeat(word+" ", n)
			pattern := repeat(pat(word)[0], n)
			if n > most {
				pattern = nil
			}
			wantParse(t, s[:len(s)-1], pattern, errIf(n > most, api.ErrForm))
			wantParse(t, s, nil, api.ErrForm)
			wantParse(t, " "+s[:len(s)-1], nil, api.ErrForm)
		}
	}
	for _, c := range []string{"0", "1", " ", "-", ".", "*"} {
		wantParse(t, strings.Repeat(c, 1<<20), nil, api.ErrForm)
	}
}

// What Parse hands out is the caller's own.
func TestP15_4ParseHandsOutItsOwn(t *testing.T) {
	l, _ := sets.Parse("1 . *")
	for i := range l[:cap(l)] {
		l[:cap(l)][i] = as(99)
	}
	wantParse(t, "1 . *", []api.Atom{as(1), one, many}, api.OK)
	a, _ := sets.Parse("1 2")
	b, _ := sets.Parse("1 2")
	a[0] = as(7)
	if b[0] != as(1) {
		t.Error("two answers are one")
	}
}

// A pattern of ASs alone matches just that list.
func TestP15_5Plain(t *testing.T) {
	all := lists([]uint32{1, 2, 3}, 4)
	for _, own := range all {
		var pattern []api.Atom
		for _, n := range own {
			pattern = append(pattern, as(n))
		}
		for _, l := range all {
			wantMatch(t, pattern, l, slices.Equal(own, l))
		}
	}
	r := rand.New(rand.NewSource(5))
	for range 300 {
		l := make([]uint32, 1+r.Intn(most))
		pattern := make([]api.Atom, len(l))
		for i := range l {
			l[i] = 1 + r.Uint32()>>r.Intn(32)/2
			pattern[i] = as(l[i])
		}
		wantMatch(t, pattern, l, true)
		wantMatch(t, pattern, l[:len(l)-1], false)
		wantMatch(t, pattern, l[1:], false)
		wantMatch(t, pattern, append(slices.Clone(l), l[0]), false)
		other := slices.Clone(l)
		other[r.Intn(len(l))] ^= 1 << r.Intn(32)
		wantMatch(t, pattern, other, false)
	}
}

// With AtomMany at both ends a pattern matches whatever has a piece that it matches without them.
func TestP15_5BothEnds(t *testing.T) {
	all := lists([]uint32{1, 2}, 5)
	for _, pattern := range lists([]api.Atom{as(1), as(2), one, many}, 3) {
		wide := slices.Concat([]api.Atom{many}, pattern, []api.Atom{many})
		for _, l := range all {
			piece := false
			for i := range len(l) + 1 {
				for k := i; k <= len(l); k++ {
					piece = piece || sets.Match(pattern, l[i:k])
				}
			}
			wantMatch(t, wide, l, piece)
		}
	}
}

// Two AtomMany next to one another match what one matches; an AtomAny and an AtomMany changed about match the same.
func TestP15_5Same(t *testing.T) {
	r := rand.New(rand.NewSource(55))
	changed := 0
	for range 20000 {
		pattern := randomPattern(r, 12, false)
		l := fitting(r, pattern)
		want := sets.Match(pattern, l)
		for i, a := range pattern {
			if a != many {
				continue
			}
			wantMatch(t, slices.Insert(slices.Clone(pattern), i, many), l, want)
			if i > 0 && pattern[i-1] == one {
				other := slices.Clone(pattern)
				other[i-1], other[i] = many, one
				wantMatch(t, other, l, want)
				changed++
			}
		}
	}
	if changed < 1000 {
		t.Errorf("only %d were changed about", changed)
	}
	for _, pattern := range lists([]api.Atom{as(1), one, many}, 2) {
		for _, l := range lists([]uint32{1, 2}, 4) {
			wantMatch(t, append(slices.Clone(pattern), one, many), l, sets.Match(append(slices.Clone(pattern), many, one), l))
			wantMatch(t, append(slices.Clone(pattern), many, many), l, sets.Match(append(slices.Clone(pattern), many), l))
		}
	}
}

// Patterns come back from their texts, and texts from their patterns.
func TestP15_6Texts(t *testing.T) {
	for _, pattern := range lists([]api.Atom{as(1), as(math.MaxUint32), as(10), one, many}, 4) {
		wantBack(t, pattern)
	}
	r := rand.New(rand.NewSource(66))
	for range 3000 {
		pattern := randomPattern(r, most, false)
		for i, a := range pattern {
			if a.Kind == api.AtomAS {
				pattern[i].AS = 1 + (r.Uint32()>>1)>>r.Intn(31)
			}
		}
		wantBack(t, pattern)
	}
}

func wantBack(t *testing.T, pattern []api.Atom) {
	t.Helper()
	text := textOf(pattern)
	wantText(t, pattern, text, api.OK)
	wantParse(t, text, pattern, api.OK)
}
