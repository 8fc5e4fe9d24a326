package sets_test

import (
	"math"
	"math/rand"
	"slices"
	"strings"
	"testing"

	"herald/api"
	"herald/prim"
	"herald/sets"
)

var ten = pre(api.V4, "\x0a", 8)

func TestP15_1Examples(t *testing.T) {
	wantCheck(t, prefixSet(item(ten, 7, 8)), api.ErrArg)
	wantCheck(t, prefixSet(item(ten, 8, 33)), api.ErrArg)
	wantCheck(t, commSet(2, 1), api.ErrArg)
	wantCheck(t, api.Set{Name: "s", Kind: 4}, api.ErrArg)
	wantCheck(t, pathSet([]api.Atom{{Kind: api.AtomAny, AS: 1}}), api.ErrArg)
}

// Sets without anything, and with one thing, with lists that are nil or empty.
func TestP15_1MayBe(t *testing.T) {
	wantCheck(t, prefixSet(), api.OK)
	wantCheck(t, commSet(), api.OK)
	wantCheck(t, pathSet(), api.OK)
	wantCheck(t, prefixSet(item(ten, 8, 32)), api.OK)
	wantCheck(t, commSet(7), api.OK)
	wantCheck(t, pathSet(pat("65000 . *")), api.OK)
	wantCheck(t, pathSet(nil), api.OK)
	wantCheck(t, pathSet([]api.Atom{}), api.OK)
	for _, kind := range kinds {
		wantCheck(t, api.Set{Name: "s", Kind: kind, Items: []api.Item{}, Comms: []uint32{}, Paths: [][]api.Atom{}}, api.OK)
	}
}

func TestP15_1Names(t *testing.T) {
	for _, s := range []api.Set{prefixSet(item(ten, 8, 9)), commSet(1, 2), pathSet(pat("1 *"))} {
		for _, s.Name = range names {
			wantCheck(t, s, api.OK)
		}
		for _, s.Name = range notNames {
			wantCheck(t, s, api.ErrArg)
		}
		for c := range 256 {
			alone, behind := string([]byte{byte(c)}), string([]byte{'a', byte(c)})
			for _, s.Name = range []string{alone, behind, behind + "b"} {
				want := api.OK
				if !nameForm.MatchString(s.Name) {
					want = api.ErrArg
				}
				wantCheck(t, s, want)
			}
		}
	}
}

func TestP15_1Kinds(t *testing.T) {
	for _, kind := range noKinds {
		for _, s := range []api.Set{prefixSet(), prefixSet(item(ten, 8, 9)), commSet(1, 2), pathSet(pat("1 *"))} {
			s.Kind = kind
			wantCheck(t, s, api.ErrArg)
			wantPrefix(t, s, ten, false)
			wantComm(t, s, []uint32{1}, false)
			wantPath(t, s, []api.Seg{{Kind: api.SegSeq, AS: []uint32{1}}}, false)
		}
	}
}

// Lists of another kind are empty, whatever the own one has.
func TestP15_1OtherLists(t *testing.T) {
	items, comms, paths := []api.Item{item(ten, 8, 9)}, []uint32{1}, [][]api.Atom{pat("*")}
	for _, kind := range kinds {
		for lists := range 8 {
			s := api.Set{Name: "s", Kind: kind}
			if lists&1 != 0 {
				s.Items = items
			}
			if lists&2 != 0 {
				s.Comms = comms
			}
			if lists&4 != 0 {
				s.Paths = paths
			}
			want := api.ErrArg
			if lists == 0 || lists == 1<<(kind-1) {
				want = api.OK
			}
			wantCheck(t, s, want)
			holds := want == api.OK && lists != 0
			wantPrefix(t, s, ten, holds && kind == api.SetPrefix)
			wantComm(t, s, comms, holds && kind == api.SetComm)
			wantPath(t, s, nil, holds && kind == api.SetPath)
		}
	}
}

// Up to 64 of each; a set of more has nothing, either.
func TestP15_1HowMany(t *testing.T) {
	for _, n := range []int{0, 1, 2, most - 1, most, most + 1, most + 2, 2 * most, 255, 256, 257, 256 + most, 1<<16 + 1} {
		want, has := api.OK, n > 0
		if n > most {
			want, has = api.ErrArg, false
		}
		wantCheck(t, prefixSet(repeat(item(ten, 8, 9), n)...), want)
		wantPrefix(t, prefixSet(repeat(item(ten, 8, 9), n)...), ten, has)
		wantCheck(t, commSet(count(n)...), want)
		wantComm(t, commSet(count(n)...), []uint32{0}, has)
		wantCheck(t, pathSet(repeat(pat("*"), n)...), want)
		wantPath(t, pathSet(repeat(pat("*"), n)...), nil, has)
	}
}

// A pattern of 64 atoms may be at each place of a set, one of 65 at none.
func TestP15_1HowManyAtoms(t *testing.T) {
	for _, n := range []int{0, 1, most - 1, most, most + 1, 256, 256 + most, 1 << 16} {
		want := api.OK
		if n > most {
			want = api.ErrArg
		}
		for place := range 3 {
			l := [][]api.Atom{pat("1"), pat("1"), pat("1")}
			l[place] = repeat(many, n)
			wantCheck(t, pathSet(l...), want)
			wantPath(t, pathSet(l...), []api.Seg{{Kind: api.SegSeq, AS: []uint32{1}}}, n <= most)
		}
	}
	wantCheck(t, pathSet(repeat(repeat(as(1), most), most)...), api.OK)
}

// Low and High about a prefix's Len, and about the most bits of its family.
func TestP15_1LowHigh(t *testing.T) {
	for fam, n := range bits {
		for _, length := range []int{0, 1, 8, n - 1, n} {
			p := pre(fam, "", length)
			edges := []int{math.MinInt, math.MinInt32, -1, 0, 1, length - 1, length, length + 1, 16, 31, 32, 33, 64, n - 1, n, n + 1, 2 * n, 127, 128, 129, 255, 256, 256 + n, 1 << 32, 1<<32 + n, math.MaxInt}
			for _, low := range edges {
				for _, high := range edges {
					want := api.ErrArg
					if length <= low && low <= high && high <= n {
						want = api.OK
					}
					wantCheck(t, prefixSet(item(p, low, high)), want)
				}
			}
		}
	}
}

// wrongPrefixes may not be.
func wrongPrefixes() []api.Prefix {
	l := []api.Prefix{{}, {Fam: api.V4}, pre(api.V4, "\x0a\x01", 15), pre(api.V4, "\x0a", 6), pre(api.V4, "\x0a", -1), pre(api.V4, "\x0a", 33), pre(api.V6, "", 129), withRD(ten, 1), withRD(pre(api.V6, "", 0), 1), withRD(pre(api.L4, "", 0), 1), {Fam: api.V4, Addr: "\x0a\x00\x00", Len: 8}, {Fam: api.V4, Addr: "\x0a\x00\x00\x00\x00", Len: 8}, {Fam: api.V6, Addr: "\x0a\x00\x00\x00", Len: 8}, {Fam: api.V4, Addr: strings.Repeat("\x00", 16), Len: 8}, pre(api.V4, "\x0a", math.MinInt), pre(api.V4, "\x0a", math.MaxInt), pre(api.V4, "\x0a\x00\x00\x01", 31)}
	for _, fam := range []int{math.MinInt, -1, 0, 6, 255, 256, 257, 1<<32 + 1, math.MaxInt} {
		l = append(l, api.Prefix{Fam: fam, Addr: "\x0a\x00\x00\x00", Len: 8})
	}
	return l
}

// One wrong item, at each place, is enough.
func TestP15_1WrongItems(t *testing.T) {
	wrong := []api.Item{item(ten, 7, 8), item(ten, 9, 8), item(ten, 8, 33), {}}
	for _, p := range wrongPrefixes() {
		wrong = append(wrong, item(p, 0, 0), item(p, 8, 32), item(p, p.Len, p.Len), item(p, 32, 32))
	}
	for _, x := range wrong {
		wantCheck(t, prefixSet(x), api.ErrArg)
		for place := range 4 {
			l := repeat(item(ten, 8, 32), 4)
			l[place] = x
			wantCheck(t, prefixSet(l...), api.ErrArg)
			wantPrefix(t, prefixSet(l...), ten, false)
			wantPrefix(t, prefixSet(l...), x.Prefix, false)
		}
	}
}

// Items may be of all families, with distinguishers, in any order, and more than once.
func TestP15_1RightItems(t *testing.T) {
	var l []api.Item
	for fam, n := range bits {
		l = append(l, item(pre(fam, "", 0), 0, n), item(pre(fam, "\xff", 8), 8, 8), item(pre(fam, "\xff", 8), 8, 8))
	}
	l = append(l, item(withRD(pre(api.Vpn4, "\x0a", 8), math.MaxUint64), 16, 24), item(withRD(pre(api.Vpn6, "\x0a", 8), 1), 16, 24))
	wantCheck(t, prefixSet(l...), api.OK)
	slices.Reverse(l)
	wantCheck(t, prefixSet(l...), api.OK)
}

func TestP15_1Comms(t *testing.T) {
	for _, l := range [][]uint32{{0}, {math.MaxUint32}, {0, math.MaxUint32}, {1<<31 - 1, 1 << 31}, {0, 1, 2, 3}, {1<<16 - 1, 1 << 16}, {api.NoExport, api.NoAdvertise, api.NoConfed}} {
		wantCheck(t, commSet(l...), api.OK)
	}
	for _, l := range [][]uint32{{1, 1}, {0, 0}, {2, 1}, {1 << 31, 1<<31 - 1}, {math.MaxUint32, 0}, {1, 2, 2}, {1, 1, 2}, {1, 3, 2}, {2, 1, 3}, {3, 1, 2}, {math.MaxUint32, math.MaxUint32}} {
		wantCheck(t, commSet(l...), api.ErrArg)
		wantComm(t, commSet(l...), l, false)
	}
	for i := range most - 1 {
		l := count(most)
		l[i], l[i+1] = l[i+1], l[i]
		wantCheck(t, commSet(l...), api.ErrArg)
		l[i] = l[i+1]
		wantCheck(t, commSet(l...), api.ErrArg)
	}
}

// A wrong atom, at each place of a pattern at each place of a set, is enough.
func TestP15_1WrongAtoms(t *testing.T) {
	for _, a := range wrongAtoms() {
		for which := range 3 {
			for place := range 3 {
				l := [][]api.Atom{pat("* 1 *"), pat("* * *"), pat("* . *")}
				l[which][place] = a
				wantCheck(t, pathSet(l...), api.ErrArg)
				wantPath(t, pathSet(l...), []api.Seg{{Kind: api.SegSeq, AS: []uint32{1}}}, false)
			}
		}
	}
}

// All sets of a choice of names, kinds and things are held against the model.
func TestP15_1Model(t *testing.T) {
	r := rand.New(rand.NewSource(15))
	right := 0
	for range 30000 {
		s := randomSet(r, 1+r.Intn(3))
		want := api.ErrArg
		if rightSet(s) {
			want = api.OK
			right++
		}
		wantCheck(t, s, want)
	}
	if right < 10000 || right > 20000 {
		t.Errorf("%d of the sets may be", right)
	}
}

// randomSet is a set of that kind, or now and then of none, that may be rather often.
func randomSet(r *rand.Rand, kind int) api.Set {
	s := api.Set{Name: names[r.Intn(len(names))], Kind: kind}
	switch {
	case r.Intn(12) == 0:
		s.Name = notNames[r.Intn(len(notNames))]
	case r.Intn(12) == 0:
		s.Kind = noKinds[r.Intn(len(noKinds))]
	}
	other := r.Intn(12)
	if s.Kind == 1 || other == 1 {
		for range r.Intn(5) {
			s.Items = append(s.Items, randomItem(r))
		}
	}
	if s.Kind == 2 || other == 2 {
		for range r.Intn(5) {
			s.Comms = append(s.Comms, uint32(20*len(s.Comms)+r.Intn(24)))
		}
	}
	if s.Kind == 3 || other == 3 {
		for range r.Intn(5) {
			s.Paths = append(s.Paths, randomPattern(r, 6, r.Intn(30) == 0))
		}
	}
	return s
}

func randomItem(r *rand.Rand) api.Item {
	p := randomPrefix(r)
	low := p.Len + r.Intn(30) - 1
	return item(p, low, low+r.Intn(30)-1)
}

// randomPrefix is of few addresses, so that some cover others; now and then it may not be.
func randomPrefix(r *rand.Rand) api.Prefix {
	p := pre(1+r.Intn(5), string([]byte{byte(r.Intn(2) * 0xff), byte(r.Intn(3)) << 6, byte(r.Intn(2)) << 7}), 0)
	p.Len = r.Intn(bits[p.Fam] + 1)
	if r.Intn(2) == 0 {
		p.Len = r.Intn(25)
	}
	if p.Fam == api.Vpn4 || p.Fam == api.Vpn6 {
		p.RD = uint64(r.Intn(2))
	}
	if r.Intn(20) > 0 {
		p.Addr = head(p.Addr, p.Len)
	}
	return p
}

// head has the first n bits of an address alone.
func head(addr string, n int) string {
	b := []byte(addr)
	for i := n; i < 8*len(b); i++ {
		b[i/8] &^= 0x80 >> (i % 8)
	}
	return string(b)
}

func randomPattern(r *rand.Rand, most int, wrong bool) []api.Atom {
	var l []api.Atom
	for range r.Intn(most + 1) {
		l = append(l, []api.Atom{as(1), as(2), one, many, many}[r.Intn(5)])
	}
	if wrong && len(l) > 0 {
		atoms := wrongAtoms()
		l[r.Intn(len(l))] = atoms[r.Intn(len(atoms))]
	}
	return l
}

// finds are sets of each kind, some with one name, some that may not be.
func finds() []api.Set {
	l := []api.Set{prefixSet(item(ten, 8, 9), item(pre(api.V6, "", 0), 0, 128)), commSet(1, 5), pathSet(pat("1 *"), nil, pat(". . .")), {Name: "s", Kind: 9}, {Name: "x", Kind: -3, Items: []api.Item{{}}, Comms: []uint32{2, 1, 1}, Paths: [][]api.Atom{wrongAtoms(), {}}}, {Name: "", Kind: 2, Comms: []uint32{7}}, {Name: "A name\x00 that is none", Comms: []uint32{8}}, {Name: "x", Kind: 1}}
	l[0].Name, l[1].Name, l[2].Name = "p", "c", "c"
	return l
}

func TestP15_1Find(t *testing.T) {
	l := finds()
	for name, first := range map[string]int{"p": 0, "c": 1, "s": 3, "x": 4, "": 5, "A name\x00 that is none": 6} {
		wantFind(t, l, name, l[first], true)
	}
	wantFind(t, l[2:], "c", l[2], true)
	wantFind(t, l[5:], "x", l[7], true)
	slices.Reverse(l)
	wantFind(t, l, "c", l[5], true)
	wantFind(t, l, "x", l[0], true)
}

func TestP15_1FindNone(t *testing.T) {
	for _, l := range [][]api.Set{nil, {}, {{}}, finds()[:5], repeat(commSet(1), 100)} {
		for _, name := range []string{"e", "pp", "P", "c ", " c", "c\x00", "A", "sS", strings.Repeat("c", 1<<17)} {
			wantFind(t, l, name, api.Set{}, false)
		}
	}
	wantFind(t, nil, "", api.Set{}, false)
	wantFind(t, finds()[:5], "", api.Set{}, false)
	wantFind(t, []api.Set{{}}, "", api.Set{}, true)
}

// Any number of sets: only the name counts, and the first one of it.
func TestP15_1FindAmongMany(t *testing.T) {
	var l []api.Set
	for i := range 1000 {
		s := commSet(uint32(i))
		s.Name = names[i%len(names)]
		l = append(l, s)
	}
	for i := range 1000 - len(names) {
		wantFind(t, l[i:], l[i].Name, l[i], true)
	}
}

// What Find hands out shares nothing, no two lists of it among them, with what it hands out again.
func TestP15_1FindHandsOutItsOwn(t *testing.T) {
	shared := pat("1 2 *")
	l := []api.Set{{Name: "a", Items: []api.Item{item(ten, 8, 9)}, Comms: []uint32{1, 2}, Paths: [][]api.Atom{shared, shared, shared[:2]}}}
	first, _ := sets.Find(l, "a")
	again, _ := sets.Find(l, "a")
	first.Paths[0][0] = as(9)
	if first.Paths[1][0] != as(1) || first.Paths[2][0] != as(1) {
		t.Error("two patterns of an answer are one")
	}
	spoil(first)
	if want := (api.Set{Name: "a", Items: []api.Item{item(ten, 8, 9)}, Comms: []uint32{1, 2}, Paths: [][]api.Atom{pat("1 2 *"), pat("1 2 *"), pat("1 2")}}); !sameSet(again, want) || !sameSet(l[0], want) {
		t.Errorf("%+v, %+v, want %+v", again, l[0], want)
	}
	l[0].Comms[0], l[0].Items[0].Low, shared[0] = 9, 9, as(9)
	if again.Comms[0] != 1 || again.Items[0].Low != 8 || again.Paths[0][0] != as(1) {
		t.Error("an answer has what was handed in")
	}
}

func TestP15_2Examples(t *testing.T) {
	s := prefixSet(item(ten, 16, 24))
	wantPrefix(t, s, pre(api.V4, "\x0a\x01", 16), true)
	wantPrefix(t, s, ten, false)
	wantPrefix(t, s, pre(api.V4, "\x0a\x01\x01", 25), false)
	wantComm(t, commSet(1, 5), []uint32{5, 9}, true)
	wantComm(t, commSet(1, 5), nil, false)
	wantPath(t, pathSet(pat("65000 *")), []api.Seg{{Kind: api.SegSeq, AS: []uint32{65000, 1}}, {Kind: api.SegSet, AS: []uint32{2}}}, true)
}

// All lengths of all families, from Low to High and none else.
func TestP15_2PrefixLengths(t *testing.T) {
	for fam, n := range bits {
		for _, x := range []api.Item{item(pre(fam, "", 0), 0, n), item(pre(fam, "", 0), 0, 0), item(pre(fam, "", 0), n, n), item(pre(fam, "", 3), 5, 20), item(pre(fam, "", n), n, n), item(pre(fam, "", n-1), n-1, n), item(pre(fam, "", 8), 8, 8)} {
			for length := -2; length <= n+2; length++ {
				wantPrefix(t, prefixSet(x), pre(fam, "", length), x.Low <= length && length <= x.High)
			}
		}
	}
}

// A bit that differs within the item's Len counts, one behind it does not.
func TestP15_2PrefixBits(t *testing.T) {
	for fam, n := range bits {
		for _, length := range []int{0, 1, 7, 8, 9, 24, 31, 32, n - 1, n} {
			s := prefixSet(item(pre(fam, "", length), length, n))
			for bit := range n {
				b := make([]byte, n/8)
				b[bit/8] = 0x80 >> (bit % 8)
				wantPrefix(t, s, api.Prefix{Fam: fam, Addr: string(b), Len: n}, bit >= length)
			}
		}
	}
}

// Family and distinguisher are those of the item.
func TestP15_2PrefixOthers(t *testing.T) {
	for fam, n := range bits {
		s := prefixSet(item(pre(fam, "", 0), 0, n))
		for other := range bits {
			wantPrefix(t, s, pre(other, "", 8), other == fam)
			wantPrefix(t, s, withRD(pre(other, "", 8), 1), false)
		}
	}
	for _, fam := range []int{api.Vpn4, api.Vpn6} {
		for _, rd := range []uint64{0, 1, 7, 1 << 32, math.MaxUint64} {
			for _, other := range []uint64{0, 1, 7, 1 << 32, math.MaxUint64} {
				wantPrefix(t, prefixSet(item(withRD(pre(fam, "", 0), rd), 0, 32)), withRD(pre(fam, "", 8), other), rd == other)
			}
		}
	}
}

// A prefix that may not be is in no set, though its family's whole is.
func TestP15_2PrefixWrong(t *testing.T) {
	var l []api.Item
	for fam, n := range bits {
		l = append(l, item(pre(fam, "", 0), 0, n))
	}
	for _, p := range wrongPrefixes() {
		wantPrefix(t, prefixSet(l...), p, false)
	}
	wantPrefix(t, prefixSet(), ten, false)
	wantPrefix(t, prefixSet(), api.Prefix{}, false)
}

// The item may stand at any place, and each is asked with its own Low and High.
func TestP15_2PrefixPlaces(t *testing.T) {
	for _, n := range []int{1, 2, 3, most} {
		for place := range n {
			l := repeat(item(ten, 16, 24), n)
			l[place] = item(pre(api.V4, "\x0b", 8), 9, 10)
			wantPrefix(t, prefixSet(l...), pre(api.V4, "\x0b", 9), true)
			wantPrefix(t, prefixSet(l...), pre(api.V4, "\x0b", 10), true)
			wantPrefix(t, prefixSet(l...), pre(api.V4, "\x0b", 16), false)
			wantPrefix(t, prefixSet(l...), pre(api.V4, "\x0a", 9), false)
			wantPrefix(t, prefixSet(l...), pre(api.V4, "\x0a", 16), n > 1)
		}
	}
}

func TestP15_2PrefixModel(t *testing.T) {
	r := rand.New(rand.NewSource(2))
	has := 0
	for range 60000 {
		s, p := randomSet(r, api.SetPrefix), randomPrefix(r)
		if len(s.Items) > 0 && r.Intn(2) == 0 {
			p = under(r, s.Items[r.Intn(len(s.Items))].Prefix)
		}
		want := inPrefixSet(s, p)
		if want {
			has++
		}
		wantPrefix(t, s, p, want)
	}
	if has < 1000 {
		t.Errorf("only %d prefixes are in their sets", has)
	}
}

// What an item has is asked by prim's covering, and its two numbers.
func TestP15_2Covers(t *testing.T) {
	r := rand.New(rand.NewSource(8))
	for range 30000 {
		x := randomItem(r)
		p := under(r, x.Prefix)
		if !rightSet(prefixSet(x)) {
			continue
		}
		wantPrefix(t, prefixSet(x), p, prim.Covers(x.Prefix, p) && x.Low <= p.Len && p.Len <= x.High)
	}
}

// under is a prefix that p covers, if p may be.
func under(r *rand.Rand, p api.Prefix) api.Prefix {
	b := []byte(p.Addr)
	n := min(p.Len+r.Intn(20), bits[p.Fam])
	for i := p.Len; i < n; i++ {
		b[i/8] ^= byte(r.Intn(2)) << (7 - i%8)
	}
	p.Addr, p.Len = string(b), n
	return p
}

func TestP15_2Comm(t *testing.T) {
	s := commSet(0, 5, 1<<31, math.MaxUint32)
	for _, c := range s.Comms {
		wantComm(t, s, []uint32{c}, true)
		wantComm(t, s, []uint32{7, 6, c}, true)
		wantComm(t, s, []uint32{c, 7, 6, 7}, true)
		wantComm(t, s, append(repeat(uint32(9), 10000), c), true)
	}
	for _, l := range [][]uint32{nil, {}, {1}, {4, 6}, {1<<31 - 1, 1<<31 + 1}, {math.MaxUint32 - 1}, {256 + 5, 1<<16 + 5}, repeat(uint32(9), 10000)} {
		wantComm(t, s, l, false)
		wantComm(t, commSet(), l, false)
		wantComm(t, commSet(l[:0]...), s.Comms, false)
	}
	for i := range uint32(5 * most) {
		wantComm(t, commSet(count(most)...), []uint32{i}, i%5 == 0)
	}
}

func TestP15_2CommModel(t *testing.T) {
	r := rand.New(rand.NewSource(3))
	has := 0
	for range 30000 {
		s := randomSet(r, api.SetComm)
		var l []uint32
		for range r.Intn(8) {
			l = append(l, uint32(r.Intn(100)))
		}
		want := inCommSet(s, l)
		if want {
			has++
		}
		wantComm(t, s, l, want)
	}
	if has < 500 {
		t.Errorf("only %d lists have one of their sets", has)
	}
}

// All ASs of all segments count, of whatever kind, and of none; wherever they are cut.
func TestP15_2Path(t *testing.T) {
	s := pathSet(pat("1 2 3"), pat("7 *"))
	for _, l := range [][]api.Seg{
		{{Kind: api.SegSeq, AS: []uint32{1, 2, 3}}},
		{{Kind: api.SegSet, AS: []uint32{1, 2, 3}}},
		{{Kind: api.SegConfSeq, AS: []uint32{1}}, {Kind: api.SegConfSet, AS: []uint32{2}}, {Kind: api.SegSet, AS: []uint32{3}}},
		{{Kind: api.SegSeq, AS: []uint32{1, 2}}, {Kind: api.SegConfSeq, AS: []uint32{3}}},
		{{}, {Kind: 99, AS: []uint32{1}}, {AS: []uint32{2}}, {Kind: -1}, {Kind: math.MinInt, AS: []uint32{3}}, {}},
		{{Kind: api.SegSeq, AS: []uint32{7}}},
		{{Kind: api.SegSeq, AS: []uint32{7, 0, 0}}},
		append([]api.Seg{{AS: []uint32{7}}}, repeat(api.Seg{Kind: api.SegSeq, AS: count(300)}, 20)...),
	} {
		wantPath(t, s, l, true)
	}
	for _, l := range [][]api.Seg{
		nil,
		{},
		{{}},
		{{Kind: api.SegSeq, AS: []uint32{1, 2}}},
		{{Kind: api.SegSet, AS: []uint32{3, 2, 1}}},
		{{Kind: api.SegSeq, AS: []uint32{1, 2, 3}}, {Kind: api.SegConfSeq, AS: []uint32{4}}},
		{{Kind: api.SegConfSeq, AS: []uint32{6}}, {Kind: api.SegSeq, AS: []uint32{7}}},
		{{Kind: api.SegSeq, AS: []uint32{0, 7}}},
	} {
		wantPath(t, s, l, false)
		wantPath(t, pathSet(), l, false)
	}
	for _, l := range [][]api.Seg{nil, {}, {{}}, {{Kind: api.SegSeq}, {Kind: api.SegSet}}} {
		wantPath(t, pathSet(nil), l, true)
		wantPath(t, pathSet(pat("1"), pat("* *")), l, true)
		wantPath(t, pathSet(pat("1"), pat(".")), l, false)
	}
}

// The pattern that matches may stand at any place.
func TestP15_2PathPlaces(t *testing.T) {
	for _, n := range []int{1, 2, 3, most} {
		for place := range n {
			l := repeat(pat("1 . *"), n)
			l[place] = pat("* 9")
			wantPath(t, pathSet(l...), []api.Seg{{Kind: api.SegSeq, AS: []uint32{8, 9}}}, true)
			wantPath(t, pathSet(l...), []api.Seg{{Kind: api.SegSeq, AS: []uint32{8, 9, 8}}}, false)
		}
	}
}

func TestP15_2PathModel(t *testing.T) {
	r := rand.New(rand.NewSource(4))
	has := 0
	for range 40000 {
		s := randomSet(r, api.SetPath)
		var l []api.Seg
		for range r.Intn(4) {
			seg := api.Seg{Kind: r.Intn(6)}
			for range r.Intn(4) {
				seg.AS = append(seg.AS, uint32(r.Intn(4)))
			}
			l = append(l, seg)
		}
		want := inPathSet(s, l)
		if want {
			has++
		}
		wantPath(t, s, l, want)
	}
	if has < 2000 {
		t.Errorf("only %d paths are in their sets", has)
	}
}

// A set is asked by what it is: not by what one of another kind would hold, and not at all, if it may not be.
func TestP15_2OtherKinds(t *testing.T) {
	seg := []api.Seg{{Kind: api.SegSeq, AS: []uint32{1}}}
	for _, s := range []api.Set{prefixSet(item(ten, 8, 9)), commSet(1), pathSet(pat("1"))} {
		own := s.Kind
		for _, s.Kind = range append(kinds, noKinds...) {
			wantPrefix(t, s, ten, own == s.Kind && own == api.SetPrefix)
			wantComm(t, s, []uint32{1}, own == s.Kind && own == api.SetComm)
			wantPath(t, s, seg, own == s.Kind && own == api.SetPath)
		}
		s.Kind = own
		for _, s.Name = range notNames {
			wantPrefix(t, s, ten, false)
			wantComm(t, s, []uint32{1}, false)
			wantPath(t, s, seg, false)
		}
	}
	wantPrefix(t, api.Set{}, ten, false)
	wantPrefix(t, api.Set{}, api.Prefix{}, false)
	wantComm(t, api.Set{}, nil, false)
	wantPath(t, api.Set{}, nil, false)
}

// With one more item, community, pattern, at whatever place, a set has all that it had.
func TestP15_6SetsGrow(t *testing.T) {
	r := rand.New(rand.NewSource(6))
	met := [4]int{}
	for range 40000 {
		s := randomSet(r, 1+r.Intn(3))
		if !rightSet(s) {
			continue
		}
		more := grown(r, s)
		if !rightSet(more) {
			continue
		}
		wantCheck(t, more, api.OK)
		p, l, seg := randomPrefix(r), []uint32{uint32(r.Intn(100)), uint32(r.Intn(100))}, []api.Seg{{Kind: api.SegSeq, AS: []uint32{uint32(r.Intn(3)), uint32(r.Intn(3))}}}
		if len(s.Items) > 0 {
			p = under(r, s.Items[0].Prefix)
		}
		if sets.Prefix(s, p) {
			wantPrefix(t, more, p, true)
			met[1]++
		}
		if sets.Comm(s, l) {
			wantComm(t, more, l, true)
			met[2]++
		}
		if sets.Path(s, seg) {
			wantPath(t, more, seg, true)
			met[3]++
		}
	}
	for kind, n := range met[1:] {
		if n < 200 {
			t.Errorf("only %d were in sets of the kind %d", n, kind+1)
		}
	}
}

// grown is a set with one thing more.
func grown(r *rand.Rand, s api.Set) api.Set {
	switch s.Kind {
	case api.SetPrefix:
		s.Items = slices.Insert(slices.Clone(s.Items), r.Intn(len(s.Items)+1), randomItem(r))
	case api.SetComm:
		s.Comms = append(slices.Clone(s.Comms), uint32(r.Intn(100)))
		slices.Sort(s.Comms)
	case api.SetPath:
		s.Paths = slices.Insert(slices.Clone(s.Paths), r.Intn(len(s.Paths)+1), randomPattern(r, 6, false))
	}
	return s
}

// A set up to its last item has what its items have, each by itself.
func TestP15_6SetsAreTheirItems(t *testing.T) {
	r := rand.New(rand.NewSource(7))
	for range 5000 {
		var l []api.Item
		p, has := randomPrefix(r), false
		for range most {
			x := randomItem(r)
			if !rightSet(prefixSet(x)) {
				continue
			}
			l = append(l, x)
			has = has || sets.Prefix(prefixSet(x), p)
			if sets.Prefix(prefixSet(l...), p) != has {
				t.Fatalf("Prefix(%+v, %+v): want %v", l, p, has)
			}
		}
	}
}
