package nlri_test

import (
	"fmt"
	"math"
	"slices"
	"sort"
	"strconv"
	"strings"

	"herald/api"
)

// family is what the model knows of a family.
type family struct {
	size       int
	labels, rd bool
}

var families = map[int]family{
	api.V4:   {size: 4},
	api.V6:   {size: 16},
	api.L4:   {size: 4, labels: true},
	api.Vpn4: {size: 4, labels: true, rd: true},
	api.Vpn6: {size: 16, labels: true, rd: true},
}

// fams are the families, in order.
var fams = []int{api.V4, api.V6, api.L4, api.Vpn4, api.Vpn6}

// none are numbers that are no families.
var none = []int{math.MinInt, math.MinInt32, -256, -5, -1, 0, 6, 7, 255, 256, 257, 1 << 32, 1<<32 + 1, math.MaxInt32, math.MaxInt}

// bitText is bytes as a text of their bits, the highest one of a byte first.
func bitText(s string) string {
	var b strings.Builder
	for i := range len(s) {
		fmt.Fprintf(&b, "%08b", s[i])
	}
	return b.String()
}

// bytesOf is bytes from a text of bits, with noughts behind as many as are missing.
func bytesOf(bits string) string {
	var b strings.Builder
	for len(bits)%8 != 0 {
		bits += "0"
	}
	for ; bits != ""; bits = bits[8:] {
		v, _ := strconv.ParseUint(bits[:8], 2, 8)
		b.WriteByte(byte(v))
	}
	return b.String()
}

// padded is an address of that size with these bytes ahead.
func padded(ahead string, size int) string { return ahead + strings.Repeat("\x00", size-len(ahead)) }

// mayBe is the model of which told prefixes may be.
func mayBe(n api.Nlri) bool {
	p := n.Prefix
	f, known := families[p.Fam]
	switch {
	case !known, len(p.Addr) != f.size, p.Len < 0, p.Len > 8*f.size:
		return false
	case strings.Contains(bitText(p.Addr)[p.Len:], "1"):
		return false
	case p.RD != 0 && !f.rd, n.Label != 0 && !f.labels, n.Label >= 1<<20:
		return false
	}
	return true
}

// laid is the model of a told prefix's bytes: what counts is put together as bits, and counted then.
func laid(n api.Nlri, add bool) string {
	f := families[n.Prefix.Fam]
	ahead, bits := "", ""
	if add {
		ahead = fmt.Sprintf("%032b", n.Id)
	}
	if f.labels {
		bits += fmt.Sprintf("%020b0001", n.Label)
	}
	if f.rd {
		bits += fmt.Sprintf("%064b", n.Prefix.RD)
	}
	bits += bitText(n.Prefix.Addr)[:n.Prefix.Len]
	return bytesOf(ahead + fmt.Sprintf("%08b", len(bits)) + bits)
}

// encoded is the model of Encode.
func encoded(l []api.Nlri, fam int, add bool) (string, api.Errno) {
	if _, known := families[fam]; !known {
		return "", api.ErrArg
	}
	s := ""
	for _, n := range l {
		if !mayBe(n) || n.Prefix.Fam != fam || !add && n.Id != 0 {
			return "", api.ErrArg
		}
		s += laid(n, add)
	}
	return s, api.OK
}

// decoded is the model of Decode: it looks for pieces among the bits as a text.
func decoded(s string, fam int, add bool) ([]api.Nlri, api.Errno) {
	f, known := families[fam]
	if !known {
		return nil, api.ErrArg
	}
	var l []api.Nlri
	for bits := bitText(s); bits != ""; {
		n := api.Nlri{Prefix: api.Prefix{Fam: fam}}
		head := 8
		if add {
			head = 40
		}
		if len(bits) < head {
			return nil, api.ErrForm
		}
		n.Id = uint32(value(bits[:head-8]))
		count := int(value(bits[head-8 : head]))
		whole := head + (count+7)/8*8
		if len(bits) < whole {
			return nil, api.ErrForm
		}
		counted := bits[head : head+count]
		bits = bits[whole:]
		if f.labels {
			if len(counted) < 24 || counted[23] == '0' && value(counted[:24]) != 0x800000 {
				return nil, api.ErrForm
			}
			if counted[23] == '1' {
				n.Label = uint32(value(counted[:20]))
			}
			counted = counted[24:]
		}
		if f.rd {
			if len(counted) < 64 {
				return nil, api.ErrForm
			}
			n.Prefix.RD = value(counted[:64])
			counted = counted[64:]
		}
		if len(counted) > 8*f.size {
			return nil, api.ErrForm
		}
		n.Prefix.Len = len(counted)
		n.Prefix.Addr = padded(bytesOf(counted), f.size)
		l = append(l, n)
	}
	return l, api.OK
}

// value is the number that a text of bits writes; 0 of none.
func value(bits string) uint64 {
	v, _ := strconv.ParseUint("0"+bits, 2, 64)
	return v
}

// order is the model of the order: both as lists of what is asked, in turn.
func order(a, b api.Nlri) int {
	texts := func(n api.Nlri) []string {
		p := n.Prefix
		// Numbers below 0 are told ahead of others by turning the highest bit.
		signed := func(v int) string { return fmt.Sprintf("%020d", uint64(v)^1<<63) }
		return []string{signed(p.Fam), fmt.Sprintf("%020d", p.RD), p.Addr, signed(p.Len), fmt.Sprintf("%010d", n.Id), fmt.Sprintf("%010d", n.Label)}
	}
	return slices.Compare(texts(a), texts(b))
}

// withdrawn is the model of Withdrawn.
func withdrawn(l []api.Nlri) []api.Nlri {
	met := map[api.Nlri]bool{}
	for _, n := range l {
		n.Label = 0
		met[n] = true
	}
	var out []api.Nlri
	for n := range met {
		out = append(out, n)
	}
	sort.Slice(out, func(i, k int) bool { return order(out[i], out[k]) < 0 })
	return out
}

// prefixes has prefixes of a family that may be: of all kinds of lengths, with and without distinguishers.
func prefixes(fam int) []api.Prefix {
	f := families[fam]
	rds := []uint64{0}
	if f.rd {
		rds = []uint64{0, 1, 7, 0x0102030405060708, 1 << 63, math.MaxUint64}
	}
	var l []api.Prefix
	for _, rd := range rds {
		add := func(addr string, lens ...int) {
			for _, n := range lens {
				l = append(l, api.Prefix{Fam: fam, RD: rd, Addr: padded(addr, f.size), Len: n})
			}
		}
		most := 8 * f.size
		add("", 0, 1, 7, 8, 9, most-9, most-8, most-7, most-1, most)
		add("\x80", 1, 2, 7, 8, 9, most)
		add("\x0a", 7, 8, 9, 15, 16, 17, most)
		add("\x0a\x01", 16, 17, 23, 24, 25)
		add("\x0a\x80", 9, 16)
		add("\xff\xff\xff", 24, 25, most)
		add(strings.Repeat("\xff", f.size-1)+"\x80", most-7, most)
		add(strings.Repeat("\xff", f.size-1)+"\xfe", most-1, most)
		add(strings.Repeat("\xff", f.size), most)
	}
	return l
}

// ids and labels are numbers near the ends, and those of which each byte is unlike the others.
var (
	ids    = []uint32{0, 1, 5, 255, 256, 0x01020304, 1<<31 - 1, 1 << 31, math.MaxUint32}
	labels = []uint32{0, 1, 15, 16, 17, 1000, 0x12345, 1 << 19, 1<<19 - 1, 1<<20 - 2, 1<<20 - 1}
)

// pool has told prefixes of a family that may be.
func pool(fam int, add bool) []api.Nlri {
	var l []api.Nlri
	for i, p := range prefixes(fam) {
		n := api.Nlri{Prefix: p}
		l = append(l, n)
		if families[fam].labels {
			n.Label = labels[i%len(labels)]
			l = append(l, n)
		}
		if add {
			n.Id = ids[i%len(ids)]
			l = append(l, n)
		}
	}
	p := prefixes(fam)[10]
	for _, label := range labels {
		for _, id := range ids {
			if (label == 0 || families[fam].labels) && (id == 0 || add) {
				l = append(l, api.Nlri{Prefix: p, Id: id, Label: label})
			}
		}
	}
	return l
}

// odd has told prefixes of which most may not be.
func odd() []api.Nlri {
	var l []api.Nlri
	for _, fam := range append(slices.Clone(fams), -1, 0, 6, math.MaxInt) {
		for _, rd := range []uint64{0, 1, math.MaxUint64} {
			for _, size := range []int{0, 3, 4, 5, 15, 16, 17} {
				for _, fill := range []string{"\x00", "\x01", "\x80", "\xff"} {
					for _, bits := range []int{math.MinInt, -1, 0, 1, 31, 32, 33, 127, 128, 129, 256, math.MaxInt} {
						for _, label := range []uint32{0, 1, 1<<20 - 1, 1 << 20, math.MaxUint32} {
							p := api.Prefix{Fam: fam, RD: rd, Addr: strings.Repeat(fill, size), Len: bits}
							l = append(l, api.Nlri{Prefix: p, Id: label, Label: label})
						}
					}
				}
			}
		}
	}
	return l
}

// wrong has told prefixes that may not be, each by one thing alone.
func wrong() []api.Nlri {
	var l []api.Nlri
	for _, fam := range fams {
		f := families[fam]
		good := api.Nlri{Prefix: api.Prefix{Fam: fam, Addr: padded("\x0a", f.size), Len: 8}}
		add := func(change func(*api.Nlri)) {
			n := good
			change(&n)
			l = append(l, n)
		}
		for _, label := range []uint32{1 << 20, 1<<20 + 1, 1 << 24, 1 << 31, math.MaxUint32} {
			add(func(n *api.Nlri) { n.Label = label })
		}
		for _, bits := range []int{math.MinInt, -1, 6, 0, 8*f.size + 1, 256 + 8, math.MaxInt} {
			add(func(n *api.Nlri) { n.Prefix.Len = bits })
		}
		for _, addr := range []string{"", "\x0a", good.Prefix.Addr[1:], good.Prefix.Addr + "\x00", padded("\x0a\x80", f.size), good.Prefix.Addr[1:] + "\x01"} {
			add(func(n *api.Nlri) { n.Prefix.Addr = addr })
		}
		for _, no := range none {
			add(func(n *api.Nlri) { n.Prefix.Fam = no })
		}
		if !f.labels {
			add(func(n *api.Nlri) { n.Label = 1 })
			add(func(n *api.Nlri) { n.Label = 1<<20 - 1 })
		}
		if !f.rd {
			add(func(n *api.Nlri) { n.Prefix.RD = 1 })
			add(func(n *api.Nlri) { n.Prefix.RD = math.MaxUint64 })
		}
	}
	return append(l, api.Nlri{})
}

// mixed puts a list into another order, always the same one.
func mixed[T any](l []T) []T {
	out := slices.Clone(l)
	at := uint64(1)
	for i := len(out) - 1; i > 0; i-- {
		at = at*6364136223846793005 + 1442695040888963407
		k := int(at>>33) % (i + 1)
		out[i], out[k] = out[k], out[i]
	}
	return out
}

// brief shows whatever it is in at most some bytes.
func brief(x any) string {
	s := fmt.Sprintf("%#v", x)
	if len(s) > 300 {
		s = strings.ToValidUTF8(s[:300], "") + ".."
	}
	return s
}
