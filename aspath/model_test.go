package aspath_test

import (
	"encoding/binary"
	"fmt"
	"math"
	"math/big"
	"regexp"
	"slices"
	"strconv"
	"strings"

	"herald/api"
)

func seq(as ...uint32) api.Seg     { return api.Seg{Kind: api.SegSeq, AS: as} }
func set(as ...uint32) api.Seg     { return api.Seg{Kind: api.SegSet, AS: as} }
func confSeq(as ...uint32) api.Seg { return api.Seg{Kind: api.SegConfSeq, AS: as} }
func confSet(as ...uint32) api.Seg { return api.Seg{Kind: api.SegConfSet, AS: as} }

func path(l ...api.Seg) []api.Seg { return l }

// pairs are the kinds with their brackets.
var pairs = map[int]string{api.SegSet: "{}", api.SegSeq: "<>", api.SegConfSeq: "()", api.SegConfSet: "[]"}

// some are n ASs of which no two are the same, with numbers near the edges ahead.
func some(n int) []uint32 {
	edges := []uint32{65535, 65536, 1, math.MaxUint32, 23456, 255, 256, 70000, 1 << 24, 0xff0000, 0x1020304}
	l := make([]uint32, n)
	for i := range l {
		l[i] = 1000 + 300*uint32(i)
		if i < len(edges) {
			l[i] = edges[i]
		}
	}
	return l
}

// same holds paths against one another by their texts.
func same(a, b []api.Seg) bool { return show(a) == show(b) }

// show writes any segments, those that may not be among them.
func show(l []api.Seg) string {
	var b []byte
	for _, seg := range l {
		b = append(strconv.AppendInt(b, int64(seg.Kind), 10), ':')
		for _, as := range seg.AS {
			b = append(strconv.AppendUint(b, uint64(as), 10), ',')
		}
		b = append(b, ';')
	}
	return string(b)
}

// deep copies a path with all its lists.
func deep(l []api.Seg) []api.Seg {
	var out []api.Seg
	for _, seg := range l {
		out = append(out, api.Seg{Kind: seg.Kind, AS: append([]uint32(nil), seg.AS...)})
	}
	return out
}

// pool has paths that may be.
func pool() [][]api.Seg {
	l := [][]api.Seg{nil, {}}
	for kind := api.SegSet; kind <= api.SegConfSet; kind++ {
		for _, as := range []uint32{1, 2, 255, 256, 23455, 23456, 23457, 65534, 65535, 65536, 65537, 70000, 1 << 31, math.MaxUint32 - 1, math.MaxUint32} {
			l = append(l, path(api.Seg{Kind: kind, AS: []uint32{as}}), path(seq(3), api.Seg{Kind: kind, AS: []uint32{as, 7, as}}))
		}
		for _, n := range []int{2, 3, 11, 127, 128, 254, 255} {
			one := api.Seg{Kind: kind, AS: some(n)}
			l = append(l, path(one), path(confSeq(5), one), path(one, set(9)), path(seq(1, 2), one, seq(3)))
		}
		for _, n := range []int{2, 3, 15, 16} {
			l = append(l, slices.Repeat(path(api.Seg{Kind: kind, AS: []uint32{1}}), n), slices.Repeat(path(api.Seg{Kind: kind, AS: some(255)}), n))
			mixed := make([]api.Seg, n)
			for i := range mixed {
				mixed[i] = api.Seg{Kind: 1 + (kind+i)%4, AS: some(1 + i)}
			}
			l = append(l, mixed)
		}
	}
	for i := range 256 {
		kind := func(at int) int { return 1 + i>>(2*at)&3 }
		l = append(l, path(api.Seg{Kind: kind(0), AS: []uint32{1}}, api.Seg{Kind: kind(1), AS: []uint32{2, 3}}, api.Seg{Kind: kind(2), AS: []uint32{1}}, api.Seg{Kind: kind(3), AS: []uint32{70000, 4}}))
	}
	return l
}

// wrong has paths that may not be, each by one thing.
func wrong() [][]api.Seg {
	bad := []api.Seg{{}}
	for _, kind := range []int{math.MinInt, -256, -2, -1, 0, 5, 6, 255, 256, 257, 258, 1 << 32, 1<<32 + 2, math.MaxInt} {
		bad = append(bad, api.Seg{Kind: kind, AS: []uint32{1}}, api.Seg{Kind: kind, AS: []uint32{1, 2}})
	}
	for kind := api.SegSet; kind <= api.SegConfSet; kind++ {
		for _, as := range [][]uint32{nil, {}, {0}, {0, 1}, {1, 0}, {1, 0, 1}, some(256), some(257), some(512), some(65537), append(some(254), 0), append(make([]uint32, 254), 1)} {
			bad = append(bad, api.Seg{Kind: kind, AS: as})
		}
	}
	var l [][]api.Seg
	for _, seg := range bad {
		l = append(l, path(seg), path(seg, seq(1)), path(seq(1), seg), path(set(1), seg, confSeq(2)), path(confSeq(2), seg), append(slices.Repeat(path(seq(1)), 15), seg))
	}
	for _, n := range []int{17, 18, 256, 272, 1000} {
		for kind := api.SegSet; kind <= api.SegConfSet; kind++ {
			l = append(l, slices.Repeat(path(api.Seg{Kind: kind, AS: []uint32{1}}), n), slices.Repeat(path(api.Seg{Kind: kind, AS: some(255)}), n))
		}
	}
	return l
}

// small has all paths of up to three segments of each kind, and of none, with few ASs or no one.
func small() [][]api.Seg {
	var segs []api.Seg
	for kind := 0; kind <= 5; kind++ {
		for _, as := range [][]uint32{nil, {0}, {1}, {1, 2}, {7, 1}} {
			segs = append(segs, api.Seg{Kind: kind, AS: as})
		}
	}
	l := [][]api.Seg{nil}
	for from := 0; from < len(l); from++ {
		if len(l[from]) == 3 {
			break
		}
		for _, seg := range segs {
			l = append(l, append(slices.Clone(l[from]), seg))
		}
	}
	return l
}

// mayBe is the model of which paths may be.
func mayBe(l []api.Seg) bool {
	for _, seg := range l {
		if _, known := pairs[seg.Kind]; !known || len(seg.AS) == 0 || len(seg.AS) > 255 {
			return false
		}
		for _, as := range seg.AS {
			if as == 0 {
				return false
			}
		}
	}
	return len(l) <= 16
}

// length is the model of Length.
func length(l []api.Seg) int {
	n := 0
	for _, seg := range l {
		n += map[int]int{api.SegSeq: len(seg.AS), api.SegSet: 1}[seg.Kind]
	}
	return n
}

// bare is the model of Bare.
func bare(l []api.Seg) []api.Seg {
	return slices.DeleteFunc(deep(l), func(seg api.Seg) bool { return seg.Kind == 3 || seg.Kind == 4 })
}

// first is the model of First.
func first(l []api.Seg) (uint32, bool) {
	b := bare(l)
	if len(b) == 0 || b[0].Kind != api.SegSeq || len(b[0].AS) == 0 {
		return 0, false
	}
	return b[0].AS[0], true
}

// flat is the model of Flat.
func flat(l []api.Seg) []uint32 {
	var f []uint32
	for _, seg := range l {
		for _, as := range seg.AS {
			f = append(f, as)
		}
	}
	return f
}

// prepended is the model of Prepend.
func prepended(l []api.Seg, as uint32, confed bool) ([]api.Seg, api.Errno) {
	if !mayBe(l) || as == 0 {
		return nil, api.ErrArg
	}
	kind := map[bool]int{false: 2, true: 3}[confed]
	out := deep(l)
	if len(out) == 0 || out[0].Kind != kind || len(out[0].AS) == 255 {
		out = slices.Insert(out, 0, api.Seg{Kind: kind})
	}
	if len(out) > 16 {
		return nil, api.ErrLong
	}
	out[0].AS = slices.Insert(out[0].AS, 0, as)
	return out, api.OK
}

// laid is the model of a path's bytes.
func laid(l []api.Seg, four bool) string {
	var b []byte
	for _, seg := range l {
		b = append(b, byte(seg.Kind), byte(len(seg.AS)))
		for _, as := range seg.AS {
			switch {
			case four:
				b = binary.BigEndian.AppendUint32(b, as)
			case as > 65535:
				b = binary.BigEndian.AppendUint16(b, 23456)
			default:
				b = binary.BigEndian.AppendUint16(b, uint16(as))
			}
		}
	}
	return string(b)
}

// unlaid is the model of reading bytes.
func unlaid(s string, four bool) ([]api.Seg, api.Errno) {
	var l []api.Seg
	size := map[bool]int{false: 2, true: 4}[four]
	for b := []byte(s); len(b) > 0; {
		if len(b) < 2 || len(b) < 2+int(b[1])*size {
			return nil, api.ErrForm
		}
		seg, list := api.Seg{Kind: int(b[0])}, b[2:2+int(b[1])*size]
		for i := 0; i < len(list); i += size {
			wide := append(make([]byte, 4-size), list[i:i+size]...)
			seg.AS = append(seg.AS, binary.BigEndian.Uint32(wide))
		}
		l, b = append(l, seg), b[2+len(list):]
	}
	if !mayBe(l) {
		return nil, api.ErrForm
	}
	return l, api.OK
}

// shrunk is a path as two bytes an AS tell it.
func shrunk(l []api.Seg) []api.Seg {
	out := deep(l)
	for _, seg := range out {
		for i, as := range seg.AS {
			if as > 65535 {
				seg.AS[i] = 23456
			}
		}
	}
	return out
}

// text is the model of a path's text.
func text(l []api.Seg) string {
	if len(l) == 0 {
		return "-"
	}
	var segs []string
	for _, seg := range l {
		numbers := strings.Trim(fmt.Sprint(seg.AS), "[]")
		segs = append(segs, fmt.Sprintf("%c%s%c", pairs[seg.Kind][0], numbers, pairs[seg.Kind][1]))
	}
	return strings.Join(segs, " ")
}

const list = `([1-9][0-9]*(?: [1-9][0-9]*)*)`

var (
	segForm  = regexp.MustCompile(`^(?:\{` + list + `\}|<` + list + `>|\(` + list + `\)|\[` + list + `\])$`)
	between  = regexp.MustCompile(`([\]>)}]) ([\[<({])`)
	greatest = big.NewInt(math.MaxUint32)
)

// untext is the model of reading a text: by a form of segments, with numbers of any size.
func untext(s string) ([]api.Seg, api.Errno) {
	if s == "-" {
		return nil, api.OK
	}
	if strings.Contains(s, "\n") {
		return nil, api.ErrForm
	}
	var l []api.Seg
	for _, word := range strings.Split(between.ReplaceAllString(s, "$1\n$2"), "\n") {
		parts := segForm.FindStringSubmatch(word)
		if parts == nil {
			return nil, api.ErrForm
		}
		var seg api.Seg
		for kind, inner := range parts {
			if kind == 0 || inner == "" {
				continue
			}
			seg.Kind = kind
			for _, digits := range strings.Split(inner, " ") {
				n, _ := new(big.Int).SetString(digits, 10)
				if n.Cmp(greatest) > 0 {
					return nil, api.ErrForm
				}
				seg.AS = append(seg.AS, uint32(n.Uint64()))
			}
		}
		l = append(l, seg)
	}
	if !mayBe(l) {
		return nil, api.ErrForm
	}
	return l, api.OK
}
