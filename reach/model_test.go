package reach_test

import (
	"encoding/hex"
	"fmt"
	"math"
	"slices"
	"strings"

	"herald/api"
	"herald/nlri"
)

// known is what the model knows of a family, as the document's table writes it.
type known struct {
	afi, safi int
	pair      string // as digits
	size      int    // bytes of addresses and next hops
	ahead     string // as digits, of what is laid ahead of a next hop
	labels    bool
	rd        bool
}

var families = map[int]known{
	api.V4:   {afi: 1, safi: 1, pair: "000101", size: 4},
	api.V6:   {afi: 2, safi: 1, pair: "000201", size: 16},
	api.L4:   {afi: 1, safi: 4, pair: "000104", size: 4, labels: true},
	api.Vpn4: {afi: 1, safi: 128, pair: "000180", size: 4, ahead: "0000000000000000", labels: true, rd: true},
	api.Vpn6: {afi: 2, safi: 128, pair: "000280", size: 16, ahead: "0000000000000000", labels: true, rd: true},
}

// fams are the families, in order.
var fams = []int{api.V4, api.V6, api.L4, api.Vpn4, api.Vpn6}

// none are numbers that are no families.
var none = []int{math.MinInt, math.MinInt32, -256, -5, -1, 0, 6, 7, 255, 256, 257, 1 << 32, 1<<32 + 1, math.MaxInt32, math.MaxInt}

// raw is bytes from their digits; blanks among them are for the eye.
func raw(digits string) string {
	b, err := hex.DecodeString(strings.ReplaceAll(digits, " ", ""))
	if err != nil {
		panic(err)
	}
	return string(b)
}

// some are bytes of which no two near one another are the same, high ones among them.
func some(n int) string {
	b := make([]byte, n)
	for i := range b {
		b[i] = byte(0xf1 + 37*i)
	}
	return string(b)
}

// nexts are next hops of a family, that of noughts and those with noughts ahead among them.
func nexts(fam int) []string {
	size := families[fam].size
	return []string{
		some(size), strings.Repeat("\x00", size), strings.Repeat("\xff", size),
		strings.Repeat("\x00", size-1) + "\x01", "\x80" + strings.Repeat("\x00", size-1),
	}
}

// headOf is the model of what stands ahead of a reach's list.
func headOf(fam int, next string) string {
	f := families[fam]
	laid := f.ahead + hex.EncodeToString([]byte(next))
	return raw(f.pair + fmt.Sprintf("%02x", len(laid)/2) + laid + "00")
}

// put is the model of Put.
func put(fam int, next string, l []api.Nlri, add bool) (string, api.Errno) {
	f, is := families[fam]
	list, err := nlri.Encode(l, fam, add)
	if !is || len(next) != f.size || err == api.ErrArg {
		return "", api.ErrArg
	}
	return short(headOf(fam, next) + list)
}

// putGone is the model of PutGone.
func putGone(fam int, l []api.Nlri, add bool) (string, api.Errno) {
	f, is := families[fam]
	list, err := nlri.Encode(l, fam, add)
	if !is || err == api.ErrArg {
		return "", api.ErrArg
	}
	return short(raw(f.pair) + list)
}

func short(value string) (string, api.Errno) {
	if len(value) > 4077 {
		return "", api.ErrLong
	}
	return value, api.OK
}

// took is what Take answers.
type took struct {
	fam  int
	next string
	l    []api.Nlri
	err  api.Errno
}

func same(a, b took) bool {
	return a.fam == b.fam && a.next == b.next && a.err == b.err && slices.Equal(a.l, b.l)
}

// famOf is the model of how a value begins.
func famOf(s string) (int, api.Errno) {
	if len(s) < 3 {
		return 0, api.ErrForm
	}
	for fam, f := range families {
		if s[:3] == raw(f.pair) {
			return fam, api.OK
		}
	}
	return 0, api.ErrNone
}

// take is the model of Take: it cuts the value by places.
func take(s string, adds []int) took {
	fam, err := famOf(s)
	if err != api.OK {
		return took{err: err}
	}
	f := families[fam]
	at := 4 + len(f.ahead)/2
	ends := []int{at + f.size}
	if fam == api.V6 {
		ends = append(ends, 4+32)
	}
	if len(s) < 4 || !slices.Contains(ends, 4+int(s[3])) {
		return took{err: api.ErrForm}
	}
	end := 4 + int(s[3])
	if len(s) <= end || s[4:at] != raw(f.ahead) {
		return took{err: api.ErrForm}
	}
	l, err := nlri.Decode(s[end+1:], fam, has(adds, fam))
	if err != api.OK {
		return took{err: api.ErrForm}
	}
	return took{fam, s[at : at+f.size], l, api.OK}
}

// takeGone is the model of TakeGone.
func takeGone(s string, adds []int) took {
	fam, err := famOf(s)
	if err != api.OK {
		return took{err: err}
	}
	l, err := nlri.Decode(s[3:], fam, has(adds, fam))
	if err != api.OK {
		return took{err: api.ErrForm}
	}
	return took{fam: fam, l: l}
}

func has(adds []int, fam int) bool {
	for _, add := range adds {
		if add == fam {
			return true
		}
	}
	return false
}

// addsOf are lists that have the family just if add says so, others with it, it twice, numbers that are no families.
func addsOf(fam int, add bool) [][]int {
	others := slices.DeleteFunc(slices.Clone(fams), func(other int) bool { return other == fam })
	if !add {
		return [][]int{nil, {}, others, others[:1], none, append(slices.Clone(none), others...), {fam - 256, fam + 256, -fam, ^fam, fam + 1<<32}}
	}
	return [][]int{
		{fam}, {fam, fam}, fams, append(slices.Clone(others), fam), append([]int{fam}, others...),
		append(slices.Clone(none), fam), append([]int{fam}, none...), {0, fam, 0, fam, 99},
	}
}

// one is a told prefix of a family, with the first bits of bytes as some tells them.
func one(fam, bits int, id, label uint32) api.Nlri {
	f := families[fam]
	p := api.Prefix{Fam: fam, Addr: strings.Repeat("\x00", f.size), Len: bits}
	addr := []byte(p.Addr)
	for i := range bits {
		addr[i/8] |= some(f.size)[i/8] & (0x80 >> (i % 8))
	}
	p.Addr = string(addr)
	if f.rd {
		p.RD = uint64(bits)<<56 | 0x0102030405
	}
	n := api.Nlri{Prefix: p, Id: id}
	if f.labels {
		n.Label = label
	}
	return n
}

// lists are lists of a family that may be laid, with ids where add says so: of nothing, of one, of many, in any order, the same ones twice.
func lists(fam int, add bool) [][]api.Nlri {
	most := 8 * families[fam].size
	var all []api.Nlri
	for i, bits := range []int{most, 0, 8, 7, 9, 1, most - 1, 24, 17, 25} {
		id := uint32(0)
		if add {
			id = uint32(i) * 0x01234567
		}
		all = append(all, one(fam, bits, id, uint32(i)*0xabcd&api.MaxLabel))
	}
	back := slices.Clone(all)
	slices.Reverse(back)
	return [][]api.Nlri{nil, {}, all[:1], all[1:2], all[2:3], all, back, slices.Repeat(all[:3], 4), slices.Repeat(all[4:5], 50)}
}

// filled is a list of a family of just so many bytes (some hundreds, or more).
func filled(fam int, add bool, size int) []api.Nlri {
	f := families[fam]
	whole := one(fam, 8*f.size, 0, 1)
	most, _ := nlri.Size(whole, add)
	count := (size + most - 1) / most
	over := count*most - size
	var l []api.Nlri
	for range count {
		n := whole
		if cut := min(over, f.size); cut > 0 {
			n = one(fam, 8*(f.size-cut), 0, 1)
			over -= cut
		}
		if add {
			n.Id = uint32(len(l)) + 1
		}
		l = append(l, n)
	}
	return l
}

// wrong are told prefixes that may not be laid in a family, each by one thing alone.
func wrong(fam int, add bool) []api.Nlri {
	f := families[fam]
	var l []api.Nlri
	change := func(do func(n *api.Nlri)) {
		n := one(fam, 8, 0, 0)
		do(&n)
		l = append(l, n)
	}
	for _, other := range append(slices.Clone(fams), none...) {
		if other != fam {
			change(func(n *api.Nlri) { n.Prefix.Fam = other })
		}
		if _, is := families[other]; is && other != fam {
			l = append(l, one(other, 8, 0, 0))
		}
	}
	for _, bits := range []int{math.MinInt, -1, 0, 3, 8*f.size + 1, 256 + 8, math.MaxInt} {
		change(func(n *api.Nlri) { n.Prefix.Len = bits })
	}
	for _, addr := range []string{"", "\x0a", strings.Repeat("\x00", f.size-1), strings.Repeat("\x00", f.size+1), strings.Repeat("\xff", f.size)} {
		change(func(n *api.Nlri) { n.Prefix.Addr = addr })
	}
	for _, label := range []uint32{1 << 20, math.MaxUint32} {
		change(func(n *api.Nlri) { n.Label = label })
	}
	if !f.labels {
		change(func(n *api.Nlri) { n.Label = 1 })
	}
	if !f.rd {
		change(func(n *api.Nlri) { n.Prefix.RD = 1 })
	}
	if !add {
		change(func(n *api.Nlri) { n.Id = 1 })
		change(func(n *api.Nlri) { n.Id = math.MaxUint32 })
	}
	return append(l, api.Nlri{})
}

// brief shows whatever it is in at most some bytes.
func brief(x any) string {
	s := fmt.Sprintf("%#v", x)
	if len(s) > 300 {
		s = strings.ToValidUTF8(s[:300], "") + ".."
	}
	return s
}
