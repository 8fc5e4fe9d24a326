package attr_test

import (
	"encoding/binary"
	"fmt"
	"math"
	"slices"
	"sort"
	"strings"

	"herald/api"
)

// be lays a number with its highest byte first.
func be(v uint64, size int) string {
	return string(binary.BigEndian.AppendUint64(nil, v)[8-size:])
}

// unbe reads all bytes as one number.
func unbe(s string) uint64 {
	return binary.BigEndian.Uint64([]byte(strings.Repeat("\x00", 8-len(s)) + s))
}

// pieces cuts bytes into pieces of that size; the last one may be shorter.
func pieces(s string, size int) []string {
	var l []string
	for len(s) > size {
		l = append(l, s[:size])
		s = s[size:]
	}
	if s != "" {
		l = append(l, s)
	}
	return l
}

// brief shows anything in at most some bytes.
func brief(x any) string {
	s := fmt.Sprintf("%#v", x)
	if len(s) > 400 {
		s = strings.ToValidUTF8(s[:400], "") + ".."
	}
	return s
}

func seq(as ...uint32) api.Seg { return api.Seg{Kind: api.SegSeq, AS: as} }

func set(as ...uint32) api.Seg { return api.Seg{Kind: api.SegSet, AS: as} }

func path(l ...api.Seg) []api.Seg { return l }

// count has n rising communities of a kind.
func count[T any](n int, nth func(i int) T) []T {
	l := make([]T, n)
	for i := range l {
		l[i] = nth(i)
	}
	return l
}

func nthComm(i int) uint32 { return uint32(i) * 0x1020304 }

func nthExt(i int) uint64 { return uint64(i) * 0x102030405060708 }

func nthLarge(i int) api.Large {
	return api.Large{Global: uint32(i / 16), A: uint32(i / 4 % 4), B: uint32(i % 4)}
}

func nthCluster(i int) uint32 { return uint32(1000 - i) }

// with changes a deep copy of attributes.
func with(a api.Attrs, change func(a *api.Attrs)) api.Attrs {
	b := deep(a)
	change(&b)
	return b
}

// deep copies attributes, each field by itself.
func deep(a api.Attrs) api.Attrs {
	var p []api.Seg
	for _, seg := range a.Path {
		p = append(p, api.Seg{Kind: seg.Kind, AS: append([]uint32{}, seg.AS...)})
	}
	a.Path = p
	a.Comms = append([]uint32{}, a.Comms...)
	a.Exts = append([]uint64{}, a.Exts...)
	a.Larges = append([]api.Large{}, a.Larges...)
	a.Clusters = append([]uint32{}, a.Clusters...)
	return a
}

// show tells all of attributes; of the same attributes it tells the same.
func show(a api.Attrs) string {
	s := fmt.Sprint(a.Origin, a.HasMed, a.Med, a.HasPref, a.Pref, a.Atomic, a.AggAS, a.AggId, a.HasOrig, a.Orig, a.Comms, a.Exts, a.Larges, a.Clusters)
	for _, seg := range a.Path {
		s += fmt.Sprint(" ", seg.Kind, seg.AS)
	}
	return s + fmt.Sprintf(" %x", a.Next)
}

func full() api.Attrs {
	return api.Attrs{
		Origin: 1, Path: path(seq(1, 70000), set(65535, 65536)), Next: "\x0a\x00\x00\x01",
		HasMed: true, Med: 5, HasPref: true, Pref: 100, Atomic: true, AggAS: 9, AggId: 7,
		Comms: []uint32{1, api.NoExport}, Exts: []uint64{2, 0x0002000100000005}, Larges: []api.Large{{Global: 1, A: 2, B: 3}, {Global: 1, A: 3}},
		HasOrig: true, Orig: 8, Clusters: []uint32{4, 3, 4},
	}
}

// greatest has the most of all that may be.
func greatest() api.Attrs {
	a := api.Attrs{
		Origin: 2, Next: strings.Repeat("\xff", 16), HasMed: true, Med: math.MaxUint32, HasPref: true, Pref: math.MaxUint32, Atomic: true,
		AggAS: math.MaxUint32, AggId: math.MaxUint32, HasOrig: true, Orig: math.MaxUint32,
		Comms: count(64, nthComm), Exts: count(64, nthExt), Larges: count(64, nthLarge), Clusters: count(32, nthCluster),
	}
	for i := range 16 {
		a.Path = append(a.Path, api.Seg{Kind: 1 + i%4, AS: count(255, func(k int) uint32 { return uint32(math.MaxUint32 - k) })})
	}
	return a
}

// pool has attributes that may be, none twice.
func pool() []api.Attrs {
	l := []api.Attrs{{}, full(), greatest()}
	for _, from := range []api.Attrs{{}, full()} {
		for _, change := range []func(a *api.Attrs){
			func(a *api.Attrs) { a.Origin = 2 },
			func(a *api.Attrs) { a.Path = path(seq(7)) },
			func(a *api.Attrs) {
				a.Path = path(api.Seg{Kind: api.SegConfSeq, AS: []uint32{65536}}, api.Seg{Kind: api.SegConfSet, AS: []uint32{1, 1}})
			},
			func(a *api.Attrs) { a.Path = slices.Repeat(path(seq(1)), 16) },
			func(a *api.Attrs) { a.Next = "\x00\x00\x00\x00" },
			func(a *api.Attrs) { a.Next = "\xff\xff\xff\xff" },
			func(a *api.Attrs) { a.Next = strings.Repeat("\x00", 16) },
			func(a *api.Attrs) { a.Next = "0123456789abcdef" },
			func(a *api.Attrs) { a.HasMed, a.Med = true, 0 },
			func(a *api.Attrs) { a.HasMed, a.Med = true, math.MaxUint32 },
			func(a *api.Attrs) { a.HasPref, a.Pref = true, 0 },
			func(a *api.Attrs) { a.HasPref, a.Pref = true, 0x01020304 },
			func(a *api.Attrs) { a.HasOrig, a.Orig = true, 0 },
			func(a *api.Attrs) { a.HasOrig, a.Orig = true, 0x80000000 },
			func(a *api.Attrs) { a.Atomic = !a.Atomic },
			func(a *api.Attrs) { a.AggAS, a.AggId = 1, 0 },
			func(a *api.Attrs) { a.AggAS, a.AggId = 65535, 1 },
			func(a *api.Attrs) { a.AggAS, a.AggId = 65536, 1 },
			func(a *api.Attrs) { a.AggAS, a.AggId = math.MaxUint32, math.MaxUint32 },
			func(a *api.Attrs) { a.Comms = []uint32{0} },
			func(a *api.Attrs) { a.Comms = count(63, nthComm) },
			func(a *api.Attrs) { a.Comms = count(64, nthComm) },
			func(a *api.Attrs) { a.Exts = []uint64{0} },
			func(a *api.Attrs) { a.Exts = count(31, nthExt) },
			func(a *api.Attrs) { a.Exts = count(32, nthExt) },
			func(a *api.Attrs) { a.Exts = count(64, nthExt) },
			func(a *api.Attrs) { a.Larges = []api.Large{{}} },
			func(a *api.Attrs) { a.Larges = count(21, nthLarge) },
			func(a *api.Attrs) { a.Larges = count(22, nthLarge) },
			func(a *api.Attrs) { a.Larges = count(64, nthLarge) },
			func(a *api.Attrs) { a.Clusters = []uint32{0} },
			func(a *api.Attrs) { a.Clusters = make([]uint32, 2) },
			func(a *api.Attrs) { a.Clusters = count(32, nthCluster) },
		} {
			l = append(l, with(from, change))
		}
	}
	// What there is in full alone is left out, one by one.
	for _, change := range []func(a *api.Attrs){
		func(a *api.Attrs) { a.Origin = 0 },
		func(a *api.Attrs) { a.Path = nil },
		func(a *api.Attrs) { a.Next = "" },
		func(a *api.Attrs) { a.HasMed, a.Med = false, 0 },
		func(a *api.Attrs) { a.HasPref, a.Pref = false, 0 },
		func(a *api.Attrs) { a.HasOrig, a.Orig = false, 0 },
		func(a *api.Attrs) { a.AggAS, a.AggId = 0, 0 },
		func(a *api.Attrs) { a.Comms = nil },
		func(a *api.Attrs) { a.Exts = nil },
		func(a *api.Attrs) { a.Larges = nil },
		func(a *api.Attrs) { a.Clusters = nil },
	} {
		l = append(l, with(full(), change))
	}
	return l
}

// wrong has attributes of which one condition is broken, and that one alone.
func wrong() []api.Attrs {
	var l []api.Attrs
	for _, from := range []api.Attrs{{}, full()} {
		for _, change := range []func(a *api.Attrs){
			func(a *api.Attrs) { a.Origin = 3 },
			func(a *api.Attrs) { a.Origin = -1 },
			func(a *api.Attrs) { a.Origin = 256 },
			func(a *api.Attrs) { a.Origin = math.MaxInt },
			func(a *api.Attrs) { a.Origin = math.MinInt },
			func(a *api.Attrs) { a.Path = path(seq()) },
			func(a *api.Attrs) { a.Path = path(seq(0)) },
			func(a *api.Attrs) { a.Path = path(seq(1, 2, 0)) },
			func(a *api.Attrs) { a.Path = path(seq(count(256, func(i int) uint32 { return uint32(i + 1) })...)) },
			func(a *api.Attrs) { a.Path = path(api.Seg{Kind: 0, AS: []uint32{1}}) },
			func(a *api.Attrs) { a.Path = path(seq(1), api.Seg{Kind: 5, AS: []uint32{1}}) },
			func(a *api.Attrs) { a.Path = slices.Repeat(path(seq(1)), 17) },
			func(a *api.Attrs) { a.Next = "\x00" },
			func(a *api.Attrs) { a.Next = "abc" },
			func(a *api.Attrs) { a.Next = "abcde" },
			func(a *api.Attrs) { a.Next = "01234567" },
			func(a *api.Attrs) { a.Next = "0123456789abcde" },
			func(a *api.Attrs) { a.Next = "0123456789abcdefg" },
			func(a *api.Attrs) { a.Next = strings.Repeat("\x00", 20) },
			func(a *api.Attrs) { a.Next = strings.Repeat("\x00", 260) },
			func(a *api.Attrs) { a.HasMed, a.Med = false, 1 },
			func(a *api.Attrs) { a.HasMed, a.Med = false, math.MaxUint32 },
			func(a *api.Attrs) { a.HasPref, a.Pref = false, 1 },
			func(a *api.Attrs) { a.HasPref, a.Pref = false, 1<<31 },
			func(a *api.Attrs) { a.HasOrig, a.Orig = false, 1 },
			func(a *api.Attrs) { a.HasOrig, a.Orig = false, 1<<31 },
			func(a *api.Attrs) { a.AggAS, a.AggId = 0, 1 },
			func(a *api.Attrs) { a.AggAS, a.AggId = 0, math.MaxUint32 },
			func(a *api.Attrs) { a.Comms = []uint32{1, 1} },
			func(a *api.Attrs) { a.Comms = []uint32{2, 1} },
			func(a *api.Attrs) { a.Comms = []uint32{1, 3, 2} },
			func(a *api.Attrs) { a.Comms = []uint32{1 << 31, 1} },
			func(a *api.Attrs) { a.Comms = count(65, nthComm) },
			func(a *api.Attrs) { a.Exts = []uint64{1, 1} },
			func(a *api.Attrs) { a.Exts = []uint64{2, 1} },
			func(a *api.Attrs) { a.Exts = []uint64{1 << 63, 1} },
			func(a *api.Attrs) { a.Exts = []uint64{1 << 32, 1} },
			func(a *api.Attrs) { a.Exts = count(65, nthExt) },
			func(a *api.Attrs) { a.Larges = []api.Large{{}, {}} },
			func(a *api.Attrs) { a.Larges = []api.Large{{Global: 2}, {Global: 1, A: 9, B: 9}} },
			func(a *api.Attrs) { a.Larges = []api.Large{{Global: 1, A: 2}, {Global: 1, A: 1, B: 9}} },
			func(a *api.Attrs) { a.Larges = []api.Large{{Global: 1, A: 1, B: 2}, {Global: 1, A: 1, B: 1}} },
			func(a *api.Attrs) { a.Larges = count(65, nthLarge) },
			func(a *api.Attrs) { a.Clusters = count(33, nthCluster) },
			func(a *api.Attrs) { a.Clusters = make([]uint32, 33) },
		} {
			l = append(l, with(from, change))
		}
	}
	return l
}

// written is the model of Write, of attributes that may be.
func written(a api.Attrs, four bool) []api.Raw {
	size, fit := 4, func(as uint32) uint64 { return uint64(as) }
	if !four {
		size, fit = 2, func(as uint32) uint64 {
			if as >= 1<<16 {
				return 23456
			}
			return uint64(as)
		}
	}
	var p, comms, exts, larges, clusters string
	for _, seg := range a.Path {
		p += string([]byte{byte(seg.Kind), byte(len(seg.AS))})
		for _, as := range seg.AS {
			p += be(fit(as), size)
		}
	}
	for _, c := range a.Comms {
		comms += be(uint64(c), 4)
	}
	for _, x := range a.Exts {
		exts += be(x, 8)
	}
	for _, x := range a.Larges {
		larges += be(uint64(x.Global), 4) + be(uint64(x.A), 4) + be(uint64(x.B), 4)
	}
	for _, c := range a.Clusters {
		clusters += be(uint64(c), 4)
	}
	var l []api.Raw
	for _, x := range []struct {
		is  bool
		raw api.Raw
	}{
		{true, api.Raw{Flags: 0x40, Type: 1, Value: string([]byte{byte(a.Origin)})}},
		{true, api.Raw{Flags: 0x40, Type: 2, Value: p}},
		{len(a.Next) == 4, api.Raw{Flags: 0x40, Type: 3, Value: a.Next}},
		{a.HasMed, api.Raw{Flags: 0x80, Type: 4, Value: be(uint64(a.Med), 4)}},
		{a.HasPref, api.Raw{Flags: 0x40, Type: 5, Value: be(uint64(a.Pref), 4)}},
		{a.Atomic, api.Raw{Flags: 0x40, Type: 6}},
		{a.AggAS != 0, api.Raw{Flags: 0xc0, Type: 7, Value: be(fit(a.AggAS), size) + be(uint64(a.AggId), 4)}},
		{comms != "", api.Raw{Flags: 0xc0, Type: 8, Value: comms}},
		{a.HasOrig, api.Raw{Flags: 0x80, Type: 9, Value: be(uint64(a.Orig), 4)}},
		{clusters != "", api.Raw{Flags: 0x80, Type: 10, Value: clusters}},
		{exts != "", api.Raw{Flags: 0xc0, Type: 16, Value: exts}},
		{larges != "", api.Raw{Flags: 0xc0, Type: 32, Value: larges}},
	} {
		if x.is {
			l = append(l, x.raw)
		}
	}
	return l
}

// laid is the model of Lay, of lists that are not too long.
func laid(l []api.Raw) string {
	s := ""
	for _, raw := range l {
		if n := len(raw.Value); n < 256 {
			s += string([]byte{raw.Flags & 0xef, raw.Type, byte(n)}) + raw.Value
		} else {
			s += string([]byte{raw.Flags | 0x10, raw.Type, byte(n >> 8), byte(n)}) + raw.Value
		}
	}
	return s
}

// split is the model of Split: the first one, and all that stands behind it.
func split(s string) ([]api.Raw, bool) {
	if s == "" {
		return nil, true
	}
	head := 3
	if s[0]&0x10 != 0 {
		head = 4
	}
	if len(s) < head {
		return nil, false
	}
	end := head + int(unbe(s[2:head]))
	if len(s) < end {
		return nil, false
	}
	rest, is := split(s[end:])
	if !is {
		return nil, false
	}
	return append([]api.Raw{{Flags: s[0], Type: s[1], Value: s[head:end]}}, rest...), true
}

// segs reads a path's bytes; false, if they are none.
func segs(s string, size int) ([]api.Seg, bool) {
	var l []api.Seg
	for s != "" {
		if len(s) < 2 {
			return nil, false
		}
		kind, n := int(s[0]), int(s[1])
		s = s[2:]
		if kind < 1 || kind > 4 || n == 0 || len(s) < n*size {
			return nil, false
		}
		seg := api.Seg{Kind: kind}
		for _, p := range pieces(s[:n*size], size) {
			seg.AS = append(seg.AS, uint32(unbe(p)))
		}
		if slices.Contains(seg.AS, 0) {
			return nil, false
		}
		l, s = append(l, seg), s[n*size:]
	}
	return l, len(l) <= 16
}

// unlike cuts bytes into unlike pieces, rising; false, if there are none, or too many.
func unlike(s string, size int) ([]string, bool) {
	if s == "" || len(s)%size != 0 {
		return nil, false
	}
	l := pieces(s, size)
	sort.Strings(l)
	l = slices.Compact(l)
	return l, len(l) <= 64
}

// taken is the model of what a value does; false, if it is wrong.
func taken(a *api.Attrs, raw api.Raw, four bool) bool {
	v, as := raw.Value, 2
	if four {
		as = 4
	}
	ok := true
	switch raw.Type {
	case 1:
		if v != "\x00" && v != "\x01" && v != "\x02" {
			return false
		}
		a.Origin = int(v[0])
	case 2:
		a.Path, ok = segs(v, as)
	case 7:
		if len(v) != as+4 || strings.Trim(v[:as], "\x00") == "" {
			return false
		}
		a.AggAS, a.AggId = uint32(unbe(v[:as])), uint32(unbe(v[as:]))
	case 6:
		a.Atomic = v == ""
		return v == ""
	case 10:
		if len(v) == 0 || len(v)%4 != 0 || len(v)/4 > 32 {
			return false
		}
		for _, p := range pieces(v, 4) {
			a.Clusters = append(a.Clusters, uint32(unbe(p)))
		}
	case 8, 16, 32:
		var l []string
		l, ok = unlike(v, map[uint8]int{8: 4, 16: 8, 32: 12}[raw.Type])
		for _, p := range l {
			switch raw.Type {
			case 8:
				a.Comms = append(a.Comms, uint32(unbe(p)))
			case 16:
				a.Exts = append(a.Exts, unbe(p))
			default:
				a.Larges = append(a.Larges, api.Large{Global: uint32(unbe(p[:4])), A: uint32(unbe(p[4:8])), B: uint32(unbe(p[8:]))})
			}
		}
	default: // 3, 4, 5, 9
		if len(v) != 4 {
			return false
		}
		n := uint32(unbe(v))
		switch raw.Type {
		case 3:
			a.Next = v
		case 4:
			a.HasMed, a.Med = true, n
		case 5:
			a.HasPref, a.Pref = true, n
		default:
			a.HasOrig, a.Orig = true, n
		}
	}
	return ok
}

// bitsOf are the types that are known, and the bits of their Flags.
var bitsOf = map[uint8]uint8{1: 0x40, 2: 0x40, 3: 0x40, 4: 0x80, 5: 0x40, 6: 0x40, 7: 0xc0, 8: 0xc0, 9: 0x80, 10: 0x80, 16: 0xc0, 32: 0xc0}

// types are those of bitsOf, rising.
var types = []uint8{1, 2, 3, 4, 5, 6, 7, 8, 9, 10, 16, 32}

// read is the model of Read: all verdicts are gathered, and the worst one is looked for then.
func read(l []api.Raw, four, internal bool) (api.Attrs, api.Verdict) {
	var a api.Attrs
	verdicts := []api.Verdict{{}}
	tell := func(action int, code, sub uint8) {
		verdicts = append(verdicts, api.Verdict{Action: action, Code: code, Sub: sub})
	}
	for i, raw := range l {
		again := slices.ContainsFunc(l[:i], func(x api.Raw) bool { return x.Type == raw.Type })
		bits, known := bitsOf[raw.Type]
		mild := raw.Type == 6 || raw.Type == 7
		inner := raw.Type == 5 || raw.Type == 9 || raw.Type == 10
		switch {
		case raw.Type == 14, raw.Type == 15:
			if again {
				tell(api.Reset, 3, 1)
			}
		case again:
		case !known:
			if raw.Flags < 0x80 {
				tell(api.Reset, 3, 2)
			}
		case inner && !internal:
			tell(api.Discard, 0, 0)
		case raw.Flags>>6 != bits>>6:
			tell(api.Withdraw, 0, 0)
		case !taken(&a, raw, four) && mild:
			tell(api.Discard, 0, 0)
		case !mild && !taken(&api.Attrs{}, raw, four):
			tell(api.Withdraw, 0, 0)
		}
	}
	sort.SliceStable(verdicts, func(i, k int) bool { return verdicts[i].Action > verdicts[k].Action })
	if verdicts[0].Action == api.Withdraw || verdicts[0].Action == api.Reset {
		a = api.Attrs{}
	}
	return a, verdicts[0]
}
