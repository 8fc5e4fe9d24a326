package open_test

import (
	"encoding/hex"
	"fmt"
	"math/rand"
	"slices"
	"strings"
	"testing"

	"herald/api"
	"herald/open"
)

// pairs are the families' AFI and SAFI, in digits.
var pairs = map[int][2]string{
	api.V4:   {"0001", "01"},
	api.V6:   {"0002", "01"},
	api.L4:   {"0001", "04"},
	api.Vpn4: {"0001", "80"},
	api.Vpn6: {"0002", "80"},
}

// raw is bytes from their digits; blanks among them are for the eye.
func raw(digits string) string {
	b, err := hex.DecodeString(strings.ReplaceAll(digits, " ", ""))
	if err != nil {
		panic(err)
	}
	return string(b)
}

// small is the open of the examples, and head its body up to the number of parameters' bytes.
func small() api.Open { return api.Open{AS: 1, Hold: 90, Id: 0x0a000001, Fams: []int{api.V4}} }

var (
	head      = raw("04 0001 005a 0a000001")
	smallBody = raw("04 0001 005a 0a000001 08 02 06 01 04 0001 00 01")
)

// full is an open that has all there may be.
func full() api.Open {
	return api.Open{
		AS: 70000, Hold: 65535, Id: 0xffffffff, Fams: []int{1, 2, 3, 4, 5}, Four: true, Refresh: true,
		Adds:  []api.Add{{Fam: 1, Send: true, Take: true}, {Fam: 2, Send: true}, {Fam: 3, Take: true}, {Fam: 4, Send: true}, {Fam: 5, Send: true, Take: true}},
		HasGR: true, Again: true, Time: 4095,
		Kept: []api.Restart{{Fam: 1, Kept: true}, {Fam: 2}, {Fam: 3, Kept: true}, {Fam: 4}, {Fam: 5, Kept: true}},
	}
}

// with is an open that is changed.
func with(o api.Open, changes ...func(o *api.Open)) api.Open {
	for _, change := range changes {
		change(&o)
	}
	return o
}

func reset(sub uint8) api.Verdict { return api.Verdict{Action: api.Reset, Code: 2, Sub: sub} }

var fine = api.Verdict{}

// one is a piece, parameter or capability, whose count of bytes is true.
func one(code byte, value string) string {
	return string([]byte{code, byte(len(value))}) + value
}

// body is one with these parameters behind the small open's head; its count is true.
func body(parameters ...string) string {
	all := strings.Join(parameters, "")
	return head + string([]byte{byte(len(all))}) + all
}

// capped is a body with one parameter of these capabilities.
func capped(caps ...string) string { return body(one(2, strings.Join(caps, ""))) }

// fam is a capability of a family.
func fam(f int) string { return one(1, raw(pairs[f][0]+"00"+pairs[f][1])) }

// told is an entry of a family with a byte behind it.
func told(f int, flags byte) string { return raw(pairs[f][0]+pairs[f][1]) + string([]byte{flags}) }

func sameOpen(a, b api.Open) bool {
	if !slices.Equal(a.Fams, b.Fams) || !slices.Equal(a.Adds, b.Adds) || !slices.Equal(a.Kept, b.Kept) {
		return false
	}
	a.Fams, a.Adds, a.Kept = nil, nil, nil
	b.Fams, b.Adds, b.Kept = nil, nil, nil
	return fmt.Sprint(a) == fmt.Sprint(b)
}

func sameSession(a, b api.Session) bool {
	if !slices.Equal(a.Fams, b.Fams) || !slices.Equal(a.Send, b.Send) || !slices.Equal(a.Take, b.Take) || !slices.Equal(a.Kept, b.Kept) {
		return false
	}
	a.Fams, a.Send, a.Take, a.Kept = nil, nil, nil, nil
	b.Fams, b.Send, b.Take, b.Kept = nil, nil, nil, nil
	return fmt.Sprint(a) == fmt.Sprint(b)
}

// isRising is the model of a list of families that are rising, each once: it is the list of those in it.
func isRising(fams []int) bool {
	var want []int
	for f := 1; f <= 5; f++ {
		if slices.Contains(fams, f) {
			want = append(want, f)
		}
	}
	return slices.Equal(fams, want)
}

// may is the model of opens that may be: each thing by itself.
func may(o api.Open) bool {
	var adds, kept []int
	busy := true
	for _, a := range o.Adds {
		adds = append(adds, a.Fam)
		busy = busy && (a.Send || a.Take)
	}
	for _, r := range o.Kept {
		kept = append(kept, r.Fam)
	}
	for _, holds := range []bool{
		o.AS != 0,
		o.AS < 65536 || o.Four,
		o.Hold >= 0 && o.Hold != 1 && o.Hold != 2 && o.Hold < 65536,
		o.Id != 0,
		len(o.Fams) != 0,
		isRising(o.Fams),
		isRising(adds),
		busy,
		o.HasGR || !o.Again,
		o.HasGR || o.Time == 0,
		o.HasGR || len(o.Kept) == 0,
		o.Time >= 0 && o.Time < 4096,
		isRising(kept),
	} {
		if !holds {
			return false
		}
	}
	return true
}

// bodyOf is the model of bodies: in digits, as the document's table has them.
func bodyOf(o api.Open) string {
	caps := ""
	for _, f := range o.Fams {
		caps += "0104" + pairs[f][0] + "00" + pairs[f][1]
	}
	if o.Refresh {
		caps += "0200"
	}
	if o.HasGR {
		time := o.Time
		if o.Again {
			time += 32768
		}
		caps += fmt.Sprintf("40%02x%04x", 2+4*len(o.Kept), time)
		for _, r := range o.Kept {
			caps += pairs[r.Fam][0] + pairs[r.Fam][1] + map[bool]string{true: "80", false: "00"}[r.Kept]
		}
	}
	if o.Four {
		caps += fmt.Sprintf("4104%08x", o.AS)
	}
	if len(o.Adds) > 0 {
		caps += fmt.Sprintf("45%02x", 4*len(o.Adds))
		for _, a := range o.Adds {
			caps += pairs[a.Fam][0] + pairs[a.Fam][1] + map[[2]bool]string{{true, false}: "02", {false, true}: "01", {true, true}: "03"}[[2]bool{a.Send, a.Take}]
		}
	}
	as := o.AS
	if as >= 65536 {
		as = 23456
	}
	n := len(caps) / 2
	return raw(fmt.Sprintf("04%04x%04x%08x%02x02%02x", as, o.Hold, o.Id, n+2, n) + caps)
}

// item is a capability that was found.
type item struct {
	code  int
	value string
}

// found is the model's first walk: the capabilities, and the first thing that is wrong with how parameters and capabilities stand.
func found(s string) ([]item, api.Verdict) {
	var items []item
	for at := 0; at < len(s); {
		if at+2 > len(s) || at+2+int(s[at+1]) > len(s) {
			return nil, reset(0)
		}
		if s[at] != 2 {
			return nil, reset(4)
		}
		end := at + 2 + int(s[at+1])
		for at += 2; at < end; {
			if at+2 > end || at+2+int(s[at+1]) > end {
				return nil, reset(0)
			}
			i := item{int(s[at]), s[at+2 : at+2+int(s[at+1])]}
			if n := len(i.value); i.code == 1 && n != 4 || i.code == 65 && n != 4 || i.code == 64 && n%4 != 2 || i.code == 69 && n%4 != 0 {
				return nil, reset(0)
			}
			if i.code == 65 && i.value == "\x00\x00\x00\x00" {
				return nil, reset(2)
			}
			items = append(items, i)
			at += 2 + len(i.value)
		}
	}
	return items, fine
}

// lastOf is the value of the last capability of a code.
func lastOf(items []item, code int) (string, bool) {
	for _, i := range slices.Backward(items) {
		if i.code == code {
			return i.value, true
		}
	}
	return "", false
}

// famOf is the family of a pair; 0 of none.
func famOf(afi string, safi byte) int {
	for f, p := range pairs {
		if raw(p[0]) == afi && raw(p[1]) == string([]byte{safi}) {
			return f
		}
	}
	return 0
}

// flagsOf answers the last byte of each family's last entry of which ok is true; -1 where there is none.
func flagsOf(value string, ok func(flags int) bool) [6]int {
	flags := [6]int{-1, -1, -1, -1, -1, -1}
	for ; len(value) >= 4; value = value[4:] {
		if ok(int(value[3])) {
			flags[famOf(value[:2], value[2])] = int(value[3])
		}
	}
	return flags
}

// judged is the model of Decode: it finds all capabilities first, and then asks for those that count.
func judged(s string) (api.Open, api.Verdict) {
	if len(s) < 10 {
		return api.Open{}, reset(0)
	}
	number := func(s string) (n int) {
		for i := range len(s) {
			n = n*256 + int(s[i])
		}
		return n
	}
	o := api.Open{AS: uint32(number(s[1:3])), Hold: number(s[3:5]), Id: uint32(number(s[5:9]))}
	for _, line := range []struct {
		holds bool
		sub   uint8
	}{{s[0] != 4, 1}, {o.AS == 0, 2}, {o.Hold == 1 || o.Hold == 2, 6}, {o.Id == 0, 3}, {len(s) != 10+int(s[9]), 0}} {
		if line.holds {
			return api.Open{}, reset(line.sub)
		}
	}
	items, v := found(s[10:])
	if v != fine {
		return api.Open{}, v
	}
	if value, is := lastOf(items, 65); is {
		o.AS, o.Four = uint32(number(value)), true
	}
	_, o.Refresh = lastOf(items, 2)
	restart, hasGR := lastOf(items, 64)
	o.HasGR = hasGR
	if hasGR {
		o.Again, o.Time = restart[0] >= 128, number(restart[:2])%4096
		restart = restart[2:]
	}
	adds, _ := lastOf(items, 69)
	kept := flagsOf(restart, func(int) bool { return true })
	ways := flagsOf(adds, func(flags int) bool { return flags == 1 || flags == 2 || flags == 3 })
	for f := 1; f <= 5; f++ {
		if slices.ContainsFunc(items, func(i item) bool { return i.code == 1 && famOf(i.value[:2], i.value[3]) == f }) {
			o.Fams = append(o.Fams, f)
		}
		if kept[f] >= 0 {
			o.Kept = append(o.Kept, api.Restart{Fam: f, Kept: kept[f] >= 128})
		}
		if ways[f] > 0 {
			o.Adds = append(o.Adds, api.Add{Fam: f, Send: ways[f] >= 2, Take: ways[f] != 2})
		}
	}
	if len(o.Fams) == 0 {
		o.Fams = []int{1}
	}
	return o, fine
}

// wantDecode holds Decode against what is wanted; with a Reset the open is zero, what is taken may be.
func wantDecode(t *testing.T, s string, want api.Open, wantV api.Verdict) {
	t.Helper()
	o, v := open.Decode(s)
	if !sameOpen(o, want) || v != wantV {
		t.Errorf("Decode(%x) = %+v, %v, not %+v, %v", s, o, v, want, wantV)
	}
	if v == fine && open.Check(o) != api.OK {
		t.Errorf("Decode(%x) = %+v, which may not be", s, o)
	}
}

func wantReset(t *testing.T, s string, sub uint8) {
	t.Helper()
	wantDecode(t, s, api.Open{}, reset(sub))
	wantModel(t, s)
}

// wantFine: the small open, changed.
func wantFine(t *testing.T, s string, changes ...func(o *api.Open)) {
	t.Helper()
	wantDecode(t, s, with(small(), changes...), fine)
	wantModel(t, s)
}

func wantModel(t *testing.T, s string) {
	t.Helper()
	o, v := judged(s)
	wantDecode(t, s, o, v)
}

// some of the numbers that stand at edges.
var edges = []uint32{1, 2, 3, 23455, 23456, 23457, 65534, 65535, 65536, 65537, 70000, 1 << 24, 1<<31 - 1, 1 << 31, 1<<32 - 1}

// anyFams is some families, rising.
func anyFams(r *rand.Rand) []int {
	var l []int
	for f := 1; f <= 5; f++ {
		if r.Intn(2) == 0 {
			l = append(l, f)
		}
	}
	return l
}

// anyOpen is one that may be.
func anyOpen(r *rand.Rand) api.Open {
	o := api.Open{AS: edges[r.Intn(len(edges))], Id: edges[r.Intn(len(edges))], Refresh: r.Intn(2) == 0}
	o.Hold = []int{0, 3, 4, 90, 255, 256, 65534, 65535}[r.Intn(8)]
	o.Four = o.AS > 65535 || r.Intn(2) == 0
	o.Fams = anyFams(r)
	if len(o.Fams) == 0 {
		o.Fams = []int{1 + r.Intn(5)}
	}
	for _, f := range anyFams(r) {
		way := 1 + r.Intn(3)
		o.Adds = append(o.Adds, api.Add{Fam: f, Send: way >= 2, Take: way != 2})
	}
	if r.Intn(2) == 0 {
		o.HasGR, o.Again, o.Time = true, r.Intn(2) == 0, []int{0, 1, 120, 255, 256, 4094, 4095}[r.Intn(7)]
		for _, f := range anyFams(r) {
			o.Kept = append(o.Kept, api.Restart{Fam: f, Kept: r.Intn(2) == 0})
		}
	}
	return o
}

// opens are many that may be, among them the least and the greatest.
func opens() []api.Open {
	r := rand.New(rand.NewSource(10))
	l := []api.Open{small(), full()}
	for range 2000 {
		l = append(l, anyOpen(r))
	}
	return l
}

// wrongs are opens that may not be, each in one way.
func wrongs() []api.Open {
	var l []api.Open
	add := func(changes ...func(o *api.Open)) { l = append(l, with(full(), changes...)) }
	add(func(o *api.Open) { o.AS = 0 })
	add(func(o *api.Open) { o.Four = false })
	add(func(o *api.Open) { o.AS, o.Four = 65536, false })
	for _, hold := range []int{-1 << 63, -65536, -90, -3, -1, 1, 2, 65536, 65539, 1 << 32, 1<<32 + 90, 1<<63 - 1} {
		add(func(o *api.Open) { o.Hold = hold })
	}
	add(func(o *api.Open) { o.Id = 0 })
	for _, fams := range [][]int{nil, {}, {0}, {6}, {-1}, {1 << 32}, {1<<32 + 1}, {257}, {-1 << 63}, {1<<63 - 1}, {1, 1}, {2, 1}, {1, 2, 2}, {1, 3, 2}, {0, 1}, {1, 6}, {5, 0}, {1, 2, 3, 4, 5, 6}, {1, 2, 3, 4, 5, 5}} {
		add(func(o *api.Open) { o.Fams = fams })
		if len(fams) == 0 {
			continue
		}
		var adds []api.Add
		var kept []api.Restart
		for i, f := range fams {
			adds = append(adds, api.Add{Fam: f, Send: i%2 == 0, Take: i%3 != 0})
			kept = append(kept, api.Restart{Fam: f, Kept: i%2 == 0})
		}
		add(func(o *api.Open) { o.Adds = adds })
		add(func(o *api.Open) { o.Kept = kept })
	}
	add(func(o *api.Open) { o.Adds = []api.Add{{Fam: 1}} })
	add(func(o *api.Open) { o.Adds = []api.Add{{Fam: 1, Send: true}, {Fam: 2}} })
	add(func(o *api.Open) { o.Adds = []api.Add{{Fam: 1}, {Fam: 2, Take: true}} })
	add(func(o *api.Open) { o.Adds = []api.Add{{}} })
	for _, time := range []int{-1 << 63, -4096, -1, 4096, 4097, 8192, 1<<15 + 1, 65536, 1 << 32, 1<<63 - 1} {
		add(func(o *api.Open) { o.Time = time })
	}
	none := func(o *api.Open) { o.HasGR, o.Again, o.Time, o.Kept = false, false, 0, nil }
	add(none, func(o *api.Open) { o.Again = true })
	add(none, func(o *api.Open) { o.Time = 1 })
	add(none, func(o *api.Open) { o.Time = -1 })
	add(none, func(o *api.Open) { o.Kept = []api.Restart{{Fam: 1}} })
	add(none, func(o *api.Open) { o.Kept = []api.Restart{{Fam: 1, Kept: true}} })
	return append(l, api.Open{})
}
