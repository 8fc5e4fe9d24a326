package comm_test

import (
	"encoding/binary"
	"fmt"
	"math"
	"math/big"
	"regexp"
	"slices"
	"sort"
	"strings"

	"herald/api"
	"herald/comm"
)

func nums(l ...uint32) []uint32 { return l }
func exts(l ...uint64) []uint64 { return l }

// edges are plain communities near the ends, and those that have names with those next to them.
var edges = []uint32{
	0, 1, 2, 9, 10, 255, 256, 258, 65535, 65536, 65537, 0x00ffffff, 1 << 24, 0x7fffffff, 0x80000000, 0x80000001, 0xfde80007,
	0xfffeff01, 0xffff0001, 0xfffffeff, 0xffffff00, api.NoExport, api.NoAdvertise, api.NoConfed, 0xffffff04, 0xfffffffe, 0xffffffff,
}

// kind is what is known of one kind of communities: its calls, and a model of the bytes of one.
type kind[T comparable] struct {
	name   string
	size   int
	encode func([]T) (string, api.Errno)
	decode func(string) ([]T, api.Errno)
	lay    func(T) string
	unlay  func(string) T
	nth    func(i int) T // rising by i
	edges  []T           // rising
}

var plain = kind[uint32]{
	name: "plain", size: 4, encode: comm.Encode, decode: comm.Decode,
	lay:   func(c uint32) string { return string(binary.BigEndian.AppendUint32(nil, c)) },
	unlay: func(s string) uint32 { return binary.BigEndian.Uint32([]byte(s)) },
	nth:   func(i int) uint32 { return uint32(i) * 0x10203 },
	edges: edges,
}

var ext = kind[uint64]{
	name: "extended", size: 8, encode: comm.EncodeExts, decode: comm.DecodeExts,
	lay:   func(x uint64) string { return string(binary.BigEndian.AppendUint64(nil, x)) },
	unlay: func(s string) uint64 { return binary.BigEndian.Uint64([]byte(s)) },
	nth:   func(i int) uint64 { return uint64(i) * 0x1020304050607 },
	edges: []uint64{
		0, 1, 2, 255, 256, 258, 65535, 65536, 1<<31 - 1, 1 << 31, 1<<32 - 1, 1 << 32, 1<<32 + 1, 1<<48 - 1, 1 << 48,
		0x0001ffffffffffff, 0x0002000000000000, 0x0002fde800000007, 0x0002ffffffffffff, 0x0003000000000000, 0x0003fde800000007,
		1<<63 - 1, 1 << 63, math.MaxUint64 - 1, math.MaxUint64,
	},
}

var large = kind[api.Large]{
	name: "large", size: 12, encode: comm.EncodeLarges, decode: comm.DecodeLarges,
	lay: func(x api.Large) string {
		return plain.lay(x.Global) + plain.lay(x.A) + plain.lay(x.B)
	},
	unlay: func(s string) api.Large {
		return api.Large{Global: plain.unlay(s[:4]), A: plain.unlay(s[4:8]), B: plain.unlay(s[8:])}
	},
	nth: func(i int) api.Large {
		return api.Large{Global: uint32(i / 100), A: uint32(i / 10 % 10), B: uint32(i % 10)}
	},
	edges: []api.Large{
		{}, {B: 1}, {B: math.MaxUint32}, {A: 1}, {A: 1, B: 1}, {A: 2}, {A: math.MaxUint32}, {A: math.MaxUint32, B: math.MaxUint32},
		{Global: 1}, {Global: 1, B: 1}, {Global: 1, A: 1}, {Global: 1, A: 2, B: 3}, {Global: 1, A: 2, B: 4}, {Global: 1, A: 3}, {Global: 1, A: 3, B: 3},
		{Global: 2}, {Global: 2, A: 1, B: 2}, {Global: 2, A: 2, B: 1}, {Global: 1 << 31},
		{Global: math.MaxUint32}, {Global: math.MaxUint32, B: math.MaxUint32}, {Global: math.MaxUint32, A: math.MaxUint32}, {Global: math.MaxUint32, A: math.MaxUint32, B: math.MaxUint32},
	},
}

// count has n communities of a kind, rising.
func (k kind[T]) count(n int) []T {
	l := make([]T, n)
	for i := range l {
		l[i] = k.nth(i)
	}
	return l
}

// laid lays any list, one that may not be too.
func (k kind[T]) laid(l []T) string {
	var b strings.Builder
	for _, x := range l {
		b.WriteString(k.lay(x))
	}
	return b.String()
}

// encoded is the model of encoding: what is laid with its highest byte first is in order just as its bytes are.
func (k kind[T]) encoded(l []T) (string, api.Errno) {
	last := ""
	for i, x := range l {
		if i > 0 && k.lay(x) <= last {
			return "", api.ErrArg
		}
		last = k.lay(x)
	}
	if len(l) > 64 {
		return "", api.ErrArg
	}
	return k.laid(l), api.OK
}

// decoded is the model of decoding.
func (k kind[T]) decoded(s string) ([]T, api.Errno) {
	if len(s) == 0 || len(s)%k.size != 0 {
		return nil, api.ErrForm
	}
	var pieces []string
	for i := 0; i < len(s); i += k.size {
		pieces = append(pieces, s[i:i+k.size])
	}
	sort.Strings(pieces)
	var l []T
	for i, p := range pieces {
		if i == 0 || p != pieces[i-1] {
			l = append(l, k.unlay(p))
		}
	}
	if len(l) > 64 {
		return nil, api.ErrLong
	}
	return l, api.OK
}

// normed is the model of Norm.
func normed(l []uint32) []uint32 {
	c := slices.Clone(l)
	sort.Slice(c, func(i, k int) bool { return c[i] < c[k] })
	var out []uint32
	for i := range c {
		if i == 0 || c[i] != c[i-1] {
			out = append(out, c[i])
		}
	}
	return out
}

// less is the model of Without.
func less(l, m []uint32) []uint32 {
	return slices.DeleteFunc(normed(l), func(c uint32) bool {
		for _, x := range m {
			if x == c {
				return true
			}
		}
		return false
	})
}

// lists has all lists of up to n of these.
func lists[T any](n int, of ...T) [][]T {
	all := [][]T{nil}
	for from := 0; from < len(all) && len(all[from]) < n; from++ {
		for _, x := range of {
			all = append(all, append(slices.Clone(all[from]), x))
		}
	}
	return all
}

// mixed puts a list into another order, always the same one.
func mixed[T any](l []T) []T {
	out := slices.Clone(l)
	at := uint64(1)
	for i := len(out) - 1; i > 0; i-- {
		at = at*6364136223846793005 + 1442695040888963407
		k := int(at>>33) % (i + 1)
		out[i], out[k] = out[k], out[i]
	}
	return out
}

var halves = regexp.MustCompile(`\A(0|[1-9][0-9]*):(0|[1-9][0-9]*)\z`)

var named = map[string]uint32{"no-export": 0xffffff01, "no-advertise": 0xffffff02, "no-export-subconfed": 0xffffff03}

// text is the model of Text.
func text(c uint32) string {
	for s, n := range named {
		if n == c {
			return s
		}
	}
	return fmt.Sprintf("%d:%d", c/65536, c%65536)
}

// parsed is the model of Parse.
func parsed(s string) (uint32, api.Errno) {
	if c, ok := named[s]; ok {
		return c, api.OK
	}
	m := halves.FindStringSubmatch(s)
	if m == nil {
		return 0, api.ErrForm
	}
	c := uint32(0)
	for _, digits := range m[1:] {
		v, _ := new(big.Int).SetString(digits, 10)
		if v.BitLen() > 16 {
			return 0, api.ErrForm
		}
		c = c<<16 | uint32(v.Uint64())
	}
	for _, n := range named {
		if n == c {
			return 0, api.ErrForm
		}
	}
	return c, api.OK
}

// brief shows whatever it is in at most some bytes.
func brief(x any) string {
	s := fmt.Sprintf("%#v", x)
	if len(s) > 200 {
		s = strings.ToValidUTF8(s[:200], "") + ".."
	}
	return s
}
