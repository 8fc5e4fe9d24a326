package update_test

import (
	"encoding/hex"
	"fmt"
	"math"
	"math/rand"
	"reflect"
	"slices"
	"strings"
	"testing"

	"herald/api"
	"herald/attr"
	"herald/nlri"
	"herald/reach"
	"herald/update"
)

// known is what the model knows of a family.
type known struct {
	pair   string // AFI and SAFI, as digits
	size   int    // bytes of addresses and next hops
	ahead  string // as digits, of what is laid ahead of a next hop
	labels bool
	rd     bool
}

var families = map[int]known{
	api.V4:   {pair: "000101", size: 4},
	api.V6:   {pair: "000201", size: 16},
	api.L4:   {pair: "000104", size: 4, labels: true},
	api.Vpn4: {pair: "000180", size: 4, ahead: "0000000000000000", labels: true, rd: true},
	api.Vpn6: {pair: "000280", size: 16, ahead: "0000000000000000", labels: true, rd: true},
}

// fams are the families, in order.
var fams = []int{api.V4, api.V6, api.L4, api.Vpn4, api.Vpn6}

// none are numbers that are no families.
var none = []int{math.MinInt, -256, -5, -1, 0, 6, 7, 255, 256, 257, 1 << 32, 1<<32 + 1, math.MaxInt}

// raw is bytes from their digits; blanks among them are for the eye.
func raw(digits string) string {
	b, err := hex.DecodeString(strings.ReplaceAll(digits, " ", ""))
	if err != nil {
		panic(err)
	}
	return string(b)
}

// some are bytes of which no two near one another are the same, high ones among them.
func some(n int) string {
	b := make([]byte, n)
	for i := range b {
		b[i] = byte(0xf1 + 37*i)
	}
	return string(b)
}

// hop is the next hop of the document's examples, hopOf one of a family.
const hop = "\x0a\x00\x00\x01"

func hopOf(fam int) string { return some(families[fam].size) }

// told is a prefix of a family, of the first bits of some bytes, as it is told.
func told(fam, bits int, id, label uint32) api.Nlri {
	f := families[fam]
	addr := make([]byte, f.size)
	for i := range bits {
		addr[i/8] |= some(f.size)[i/8] & (0x80 >> (i % 8))
	}
	n := api.Nlri{Prefix: api.Prefix{Fam: fam, Addr: string(addr), Len: bits}, Id: id}
	if f.rd {
		n.Prefix.RD = 0x0102030405060708
	}
	if f.labels {
		n.Label = label
	}
	return n
}

func list(l ...api.Nlri) []api.Nlri { return l }

// ten is 10.0.0.0/8 of V4.
func ten() api.Nlri {
	return api.Nlri{Prefix: api.Prefix{Fam: api.V4, Addr: "\x0a\x00\x00\x00", Len: 8}}
}

// two are two told prefixes of a family that are not in order.
func two(fam int) []api.Nlri { return list(told(fam, 9, 0, 1000), told(fam, 0, 0, api.MaxLabel)) }

// withIds has the same prefixes, with ids.
func withIds(l []api.Nlri) []api.Nlri {
	l = slices.Clone(l)
	for i := range l {
		l[i].Id = uint32(i) + 5
	}
	return l
}

// rich are attributes that have all that may be.
func rich() api.Attrs {
	return api.Attrs{
		Origin: api.Egp, Path: []api.Seg{{Kind: api.SegSeq, AS: []uint32{65001, 7}}, {Kind: api.SegSet, AS: []uint32{3, 4}}}, Next: hop,
		HasMed: true, Med: 5, HasPref: true, Pref: 100, Atomic: true, AggAS: 9, AggId: 7,
		Comms: []uint32{1, api.NoExport}, Exts: []uint64{2, 3}, Larges: []api.Large{{Global: 1}, {Global: 1, B: 1}},
		HasOrig: true, Orig: 8, Clusters: []uint32{4, 3, 4},
	}
}

// Updates that may be.
func reached() api.Update {
	return api.Update{Reach: list(ten()), Has: true, Attrs: api.Attrs{Next: hop}}
}

func more(fam int) api.Update {
	return api.Update{Fam: fam, Next: hopOf(fam), More: two(fam), Has: true}
}

func gone(fam int) api.Update { return api.Update{GoneFam: fam, Gone: two(fam)} }

func full() api.Update {
	return api.Update{
		Withdrawn: two(api.V4), Attrs: rich(), Has: true, Reach: list(ten(), told(api.V4, 32, 0, 0)),
		Fam: api.V6, Next: hopOf(api.V6), More: two(api.V6), GoneFam: api.Vpn4, Gone: two(api.Vpn4),
	}
}

// with is an update that is changed.
func with(u api.Update, changes ...func(u *api.Update)) api.Update {
	u = deep(u)
	for _, change := range changes {
		change(&u)
	}
	return u
}

// deep copies an update, each list by itself; lists that are nil come out empty.
func deep(u api.Update) api.Update {
	a := &u.Attrs
	p := []api.Seg{}
	for _, seg := range a.Path {
		p = append(p, api.Seg{Kind: seg.Kind, AS: append([]uint32{}, seg.AS...)})
	}
	a.Path = p
	a.Comms, a.Exts = append([]uint32{}, a.Comms...), append([]uint64{}, a.Exts...)
	a.Larges, a.Clusters = append([]api.Large{}, a.Larges...), append([]uint32{}, a.Clusters...)
	for _, l := range []*[]api.Nlri{&u.Withdrawn, &u.Reach, &u.More, &u.Gone} {
		*l = append([]api.Nlri{}, *l...)
	}
	return u
}

// same holds two updates against each other, as the library knows how to.
func same(a, b api.Update) bool { return reflect.DeepEqual(deep(a), deep(b)) }

// Sessions: of all families with four bytes an AS, without ids and with those of all.
var (
	every   = api.Session{Fams: fams, Four: true}
	withAll = api.Session{Fams: fams, Four: true, Send: fams, Take: fams}
	// example is the one of the document's examples.
	example = api.Session{Fams: []int{api.V4, api.V6}, Four: true}
)

func reset(sub uint8) api.Verdict { return api.Verdict{Action: api.Reset, Code: 3, Sub: sub} }

var (
	fine     = api.Verdict{}
	discard  = api.Verdict{Action: api.Discard}
	withdraw = api.Verdict{Action: api.Withdraw}
)

// may is the model of updates that may be: each thing by itself.
func may(u api.Update) bool {
	all := func(l []api.Nlri, fam int) bool {
		for _, n := range l {
			if nlri.Check(n) != api.OK || n.Prefix.Fam != fam {
				return false
			}
		}
		return true
	}
	noMore := u.Fam == 0 && len(u.Next) == 0 && len(u.More) == 0
	_, isFam := families[u.Fam]
	someMore := isFam && all(u.More, u.Fam) && len(u.More) >= 1 && len(u.Next) == families[u.Fam].size
	_, isGone := families[u.GoneFam]
	for _, holds := range []bool{
		all(u.Withdrawn, api.V4),
		all(u.Reach, api.V4),
		noMore || someMore,
		u.GoneFam == 0 && len(u.Gone) == 0 || isGone && all(u.Gone, u.GoneFam),
		u.Has == (len(u.Reach)+len(u.More) > 0),
		u.Has || same(api.Update{Attrs: u.Attrs}, api.Update{}),
		!u.Has || attr.Check(u.Attrs) == api.OK,
		!u.Has || len(u.Attrs.Next) == 0 || len(u.Attrs.Next) == 4,
		len(u.Reach) == 0 || len(u.Attrs.Next) == 4,
	} {
		if !holds {
			return false
		}
	}
	return true
}

// isOf is the model of updates of a session.
func isOf(u api.Update, s api.Session) bool {
	asked := []int{u.Fam, u.GoneFam}
	for _, n := range slices.Concat(u.Withdrawn, u.Reach) {
		asked = append(asked, n.Prefix.Fam)
	}
	for _, fam := range asked {
		if fam != 0 && !slices.Contains(s.Fams, fam) {
			return false
		}
	}
	for _, n := range slices.Concat(u.Withdrawn, u.Reach, u.More, u.Gone) {
		if n.Id > 0 && !slices.Contains(s.Send, n.Prefix.Fam) {
			return false
		}
	}
	return true
}

// layTold is the model of told prefixes' bytes, as digits.
func layTold(l []api.Nlri, add bool) string {
	b := ""
	for _, n := range l {
		f, bits := families[n.Prefix.Fam], n.Prefix.Len
		rest := ""
		if f.labels {
			rest, bits = rest+fmt.Sprintf("%06x", n.Label*16+1), bits+24
		}
		if f.rd {
			rest, bits = rest+fmt.Sprintf("%016x", n.Prefix.RD), bits+64
		}
		if add {
			b += fmt.Sprintf("%08x", n.Id)
		}
		b += fmt.Sprintf("%02x", bits) + rest + fmt.Sprintf("%x", n.Prefix.Addr[:(n.Prefix.Len+7)/8])
	}
	return b
}

// layAttr is the model of one attribute's bytes, as digits; the value comes so, too.
func layAttr(flags, typ uint8, value string) string {
	n := len(value) / 2
	if n > 255 {
		return fmt.Sprintf("%02x%02x%04x", flags|0x10, typ, n) + value
	}
	return fmt.Sprintf("%02x%02x%02x", flags, typ, n) + value
}

// bodyOf is the model of an update's body, of any size up to what its lengths can tell.
func bodyOf(u api.Update, s api.Session) string {
	add := func(fam int) bool { return slices.Contains(s.Send, fam) }
	early, late := "", ""
	if u.Has {
		l, _ := attr.Write(u.Attrs, s.Four)
		for _, x := range l {
			if x.Type < 14 {
				early += layAttr(x.Flags, x.Type, hex.EncodeToString([]byte(x.Value)))
			} else {
				late += layAttr(x.Flags, x.Type, hex.EncodeToString([]byte(x.Value)))
			}
		}
	}
	if f := families[u.Fam]; u.Fam != 0 {
		next := f.ahead + hex.EncodeToString([]byte(u.Next))
		early += layAttr(0x80, 14, f.pair+fmt.Sprintf("%02x", len(next)/2)+next+"00"+layTold(u.More, add(u.Fam)))
	}
	if f := families[u.GoneFam]; u.GoneFam != 0 {
		early += layAttr(0x80, 15, f.pair+layTold(u.Gone, add(u.GoneFam)))
	}
	withdrawn, reach := layTold(u.Withdrawn, add(api.V4)), layTold(u.Reach, add(api.V4))
	attrs := early + late
	return raw(fmt.Sprintf("%04x", len(withdrawn)/2) + withdrawn + fmt.Sprintf("%04x", len(attrs)/2) + attrs + reach)
}

// encoded is the model of Encode.
func encoded(u api.Update, s api.Session) (string, api.Errno) {
	if !may(u) || !isOf(u, s) {
		return "", api.ErrArg
	}
	if b := bodyOf(u, s); len(b) <= 4077 {
		return b, api.OK
	}
	return "", api.ErrLong
}

// judged is the model of Decode: it cuts by places, gathers the verdicts of all steps, and then looks for the one that holds.
func judged(b string, s api.Session, internal bool) (api.Update, api.Verdict) {
	var met []api.Verdict
	u, a := stepped(b, s, internal, func(v api.Verdict) { met = append(met, v) })
	worst := fine
	for _, v := range met {
		if v.Action == api.Reset {
			return api.Update{}, v
		}
		if v.Action > worst.Action {
			worst = v
		}
	}
	if worst.Action < api.Withdraw && len(u.Reach)+len(u.More) > 0 {
		u.Has, u.Attrs = true, a
	}
	return u, worst
}

// stepped tells the verdict of each step; what is behind a Reset counts for nothing.
func stepped(b string, s api.Session, internal bool, tell func(v api.Verdict)) (u api.Update, a api.Attrs) {
	has := func(l []int, fam int) bool { return slices.Contains(l, fam) }
	number := func(at int) int { return int(b[at])<<8 | int(b[at+1]) }
	if len(b) < 4 || 2+number(0)+2 > len(b) || 2+number(0)+2+number(2+number(0)) > len(b) {
		tell(reset(1))
		return
	}
	first := 2 + number(0)
	second := first + 2 + number(first)
	var wrong1, wrong2 api.Errno
	u.Withdrawn, wrong1 = nlri.Decode(b[2:first], api.V4, has(s.Take, api.V4))
	u.Reach, wrong2 = nlri.Decode(b[second:], api.V4, has(s.Take, api.V4))
	if wrong1 != api.OK || wrong2 != api.OK {
		tell(reset(10))
	}
	raws, even := attr.Split(b[first+2 : second])
	if !even {
		tell(withdraw)
	}
	a, v := attr.Read(raws, s.Four, internal)
	tell(v)
	at := func(typ uint8) int { return slices.IndexFunc(raws, func(x api.Raw) bool { return x.Type == typ }) }
	if i := at(14); i >= 0 {
		if f := raws[i].Flags; f>>6 != 2 {
			tell(reset(4))
		}
		fam, next, l, err := reach.Take(raws[i].Value, s.Take)
		if err == api.ErrForm {
			tell(reset(9))
		} else if err == api.OK && has(s.Fams, fam) && len(l) > 0 {
			u.Fam, u.Next, u.More = fam, next, l
		}
	}
	if i := at(15); i >= 0 {
		if f := raws[i].Flags; f>>6 != 2 {
			tell(reset(4))
		}
		fam, l, err := reach.TakeGone(raws[i].Value, s.Take)
		if err == api.ErrForm {
			tell(reset(9))
		} else if err == api.OK && has(s.Fams, fam) {
			u.GoneFam, u.Gone = fam, l
		}
	}
	if !has(s.Fams, api.V4) {
		u.Withdrawn, u.Reach = nil, nil
	}
	if len(u.Reach)+len(u.More) > 0 && (at(1) < 0 || at(2) < 0) || len(u.Reach) > 0 && at(3) < 0 {
		tell(withdraw)
	}
	return u, a
}

func wantEncode(t *testing.T, u api.Update, s api.Session, want string, wantErr api.Errno) {
	t.Helper()
	if b, err := update.Encode(u, s); b != want || err != wantErr {
		t.Errorf("Encode(%s, %s) = %x, %d, not %x, %d", brief(u), brief(s), b, err, want, wantErr)
	}
}

func wantDecode(t *testing.T, b string, s api.Session, internal bool, want api.Update, wantVerdict api.Verdict) {
	t.Helper()
	if u, v := update.Decode(b, s, internal); v != wantVerdict || !same(u, want) {
		t.Errorf("Decode(%x, %s, %t) = %s, %v, not %s, %v", b, brief(s), internal, brief(u), v, brief(want), wantVerdict)
	}
	if u, v := judged(b, s, internal); v != wantVerdict || !same(u, want) {
		t.Errorf("the model of (%x, %s, %t): %s, %v, not %s, %v", b, brief(s), internal, brief(u), v, brief(want), wantVerdict)
	}
}

// wantModel asks of Decode what the model says, and answers its action.
func wantModel(t *testing.T, b string, s api.Session, internal bool) int {
	t.Helper()
	want, v := judged(b, s, internal)
	wantDecode(t, b, s, internal, want, v)
	return v.Action
}

// brief shows whatever it is in at most some bytes.
func brief(x any) string {
	s := fmt.Sprintf("%+v", x)
	s = fmt.Sprintf("%+q", s)
	if len(s) > 500 {
		s = s[:500] + ".."
	}
	return s
}

// anyTold is told prefixes of a family, with ids if add says so; at least one if must says so.
func anyTold(r *rand.Rand, fam int, add, must bool) []api.Nlri {
	n := r.Intn(4)
	if must {
		n++
	}
	var l []api.Nlri
	for range n {
		one := told(fam, r.Intn(8*families[fam].size+1), 0, r.Uint32()%(api.MaxLabel+1))
		if families[fam].rd {
			one.Prefix.RD = r.Uint64() >> r.Intn(64)
		}
		if add {
			one.Id = r.Uint32() >> r.Intn(33)
		}
		l = append(l, one)
	}
	return l
}

// anyAttrs are attributes that may be; ASs of more than two bytes are among them if four says so.
func anyAttrs(r *rand.Rand, four, next bool) api.Attrs {
	full := rich()
	a := api.Attrs{Origin: r.Intn(3)}
	as := func() uint32 {
		if four && r.Intn(2) == 0 {
			return 1 + r.Uint32()>>1
		}
		return 1 + r.Uint32()%65535
	}
	for range r.Intn(3) {
		seg := api.Seg{Kind: 1 + r.Intn(4)}
		for range 1 + r.Intn(3) {
			seg.AS = append(seg.AS, as())
		}
		a.Path = append(a.Path, seg)
	}
	if next || r.Intn(2) == 0 {
		a.Next = some(4)
	}
	if r.Intn(2) == 0 {
		a.HasMed, a.Med, a.HasPref, a.Pref = true, r.Uint32(), true, r.Uint32()
	}
	if r.Intn(2) == 0 {
		a.Atomic, a.AggAS, a.AggId = true, as(), r.Uint32()
	}
	if r.Intn(2) == 0 {
		a.Comms, a.Clusters, a.HasOrig, a.Orig = full.Comms, full.Clusters, true, r.Uint32()
	}
	if r.Intn(2) == 0 {
		a.Exts, a.Larges = full.Exts, full.Larges
	}
	return a
}

// anyFams are some families, in any order.
func anyFams(r *rand.Rand) []int {
	var l []int
	for _, at := range r.Perm(len(fams)) {
		if r.Intn(4) > 0 {
			l = append(l, fams[at])
		}
	}
	return l
}

// anySession is one whose Send is Take.
func anySession(r *rand.Rand) api.Session {
	ids := anyFams(r)
	return api.Session{Fams: anyFams(r), Four: r.Intn(2) == 0, Send: ids, Take: slices.Clone(ids)}
}

// anyUpdate is an update that may be, of the session.
func anyUpdate(r *rand.Rand, s api.Session) api.Update {
	var u api.Update
	add := func(fam int) bool { return slices.Contains(s.Send, fam) }
	if slices.Contains(s.Fams, api.V4) {
		u.Withdrawn, u.Reach = anyTold(r, api.V4, add(api.V4), false), anyTold(r, api.V4, add(api.V4), false)
	}
	if len(s.Fams) > 0 && r.Intn(2) == 0 {
		u.Fam = s.Fams[r.Intn(len(s.Fams))]
		u.Next, u.More = hopOf(u.Fam), anyTold(r, u.Fam, add(u.Fam), true)
	}
	if len(s.Fams) > 0 && r.Intn(2) == 0 {
		u.GoneFam = s.Fams[r.Intn(len(s.Fams))]
		u.Gone = anyTold(r, u.GoneFam, add(u.GoneFam), false)
	}
	if len(u.Reach)+len(u.More) > 0 {
		u.Has, u.Attrs = true, anyAttrs(r, s.Four, len(u.Reach) > 0)
	}
	return u
}
