package polvm_test

import (
	"math"
	"regexp"
	"slices"
	"strconv"
	"strings"

	"herald/api"
)

// most is how many communities, and entries of sets, there may be, as the document writes it.
const most = 64

// bits are those of each family's addresses.
var bits = map[int]int{1: 32, 2: 128, 3: 32, 4: 32, 5: 128}

// The numbers that are no kinds have the lowest bits of some that are.
var (
	names    = []string{"a", "z", "a-", "a--", "a-0", "a0", "a9z", "if", "not", "and", "then", "accept", "a23456789012345", "a234567890123456", "z---------------"}
	notNames = []string{"A", "Z", "1", "1a", "-", "-a", "_", "aA", "a_", "a.b", "a b", "a ", " a", " ", "a\n", "a\x00", "\x00", "a:b", "a`", "`a", "{a", "\xe4", "aä", "a\xff", "a234567890123456-", "a2345678901234567", strings.Repeat("a", 256), strings.Repeat("a", 1<<16+1), strings.Repeat("a", 15) + "A"}
	addrs    = []string{"\x0a\x00\x00\x01", "\x00\x00\x00\x00", "\xff\xff\xff\xff", strings.Repeat("\x00", 16), "0123456789abcdef"}
	notAddrs = []string{"a", "abc", "abcde", "01234567", "0123456789abcde", "0123456789abcdefg", strings.Repeat("\x00", 32), strings.Repeat("\x00", 256+4), "10.0.0.1"}
	noKinds  = []int{math.MinInt, math.MinInt32, -1 << 32, -3, -1, 0, 11, 12, 15, 255, 256, 257, 258, 1<<16 + 1, 1 << 31, 1<<32 + 1, 1<<32 + 2, 1<<32 + 3, math.MaxInt32, math.MaxInt}
	edges    = []int{math.MinInt, math.MinInt32, -1 << 32, -65535, -5, -2, -1, 0, 1, 2, 3, 4, 5, 6, 255, 256, 257, 65534, 65535, 65536, 65537, 1<<31 - 1, 1 << 31, 1 << 32, 1<<32 + 1, 1<<32 + 2, math.MaxInt - 1, math.MaxInt}
	edges32  = []uint32{0, 1, 2, 3, 7, 8, 9, 10, 255, 256, 257, 258, 264, 65535, 65536, 65537, 1<<31 - 1, 1 << 31, api.NoExport, math.MaxUint32 - 1, math.MaxUint32}
)

var nameForm = regexp.MustCompile(`\A[a-z][a-z0-9-]{0,15}\z`)

func isName(s string) bool { return nameForm.MatchString(s) }

// rightCond and rightAction are the tables of chapter 16.
func rightCond(c api.Cond) bool {
	switch c.Kind {
	case 1, 2, 3, 4:
		return isName(c.Name) && c.N == 0
	case 5:
		return c.Name == "" && slices.Contains([]int{0, 1, 2}, c.N)
	case 6:
		return c.Name == "" && 0 <= c.N && c.N <= 65535
	case 7:
		return c.Name == "" && slices.Contains([]int{1, 2, 3, 4, 5}, c.N)
	}
	return false
}

func rightAction(a api.Action) bool {
	name, n, addr := a.Name == "", a.N == 0, a.Addr == ""
	switch a.Kind {
	case 1, 2, 5:
		return name && n && addr
	case 3, 4, 6:
		return name && addr
	case 7:
		return isName(a.Name) && n && addr
	case 8:
		return name && addr && slices.Contains([]uint32{1, 2, 3, 4, 5, 6, 7, 8}, a.N)
	case 9:
		return name && n && (len(a.Addr) == 4 || len(a.Addr) == 16)
	case 10:
		return name && addr && slices.Contains([]uint32{0, 1, 2}, a.N)
	}
	return false
}

// bitText is an address as a text of its bits.
func bitText(addr string) string {
	var b strings.Builder
	for i := 0; i < len(addr); i++ {
		t := strconv.FormatUint(uint64(addr[i]), 2)
		b.WriteString(strings.Repeat("0", 8-len(t)) + t)
	}
	return b.String()
}

func rightPrefix(p api.Prefix) bool {
	n, known := bits[p.Fam]
	if !known || 8*len(p.Addr) != n || p.Len < 0 || p.Len > n {
		return false
	}
	if p.RD != 0 && p.Fam < 4 {
		return false
	}
	return !strings.Contains(bitText(p.Addr)[p.Len:], "1")
}

// rises tells whether each one is above all ahead of it, and there are not too many.
func rises[T any](l []T, below func(x, y T) bool) bool {
	for i := range l {
		for k := range i {
			if !below(l[k], l[i]) {
				return false
			}
		}
	}
	return len(l) <= most
}

func rightPath(l []api.Seg) bool {
	for _, seg := range l {
		if seg.Kind < 1 || seg.Kind > 4 || len(seg.AS) < 1 || len(seg.AS) > 255 || slices.Contains(seg.AS, 0) {
			return false
		}
	}
	return len(l) <= 16
}

func rightAttrs(a api.Attrs) bool {
	for _, x := range []struct {
		is bool
		n  uint32
	}{{a.HasMed, a.Med}, {a.HasPref, a.Pref}, {a.HasOrig, a.Orig}, {a.AggAS > 0, a.AggId}} {
		if !x.is && x.n != 0 {
			return false
		}
	}
	large := func(x, y api.Large) bool {
		return slices.Compare([]uint32{x.Global, x.A, x.B}, []uint32{y.Global, y.A, y.B}) < 0
	}
	return slices.Contains([]int{0, 1, 2}, a.Origin) && slices.Contains([]int{0, 4, 16}, len(a.Next)) && rightPath(a.Path) && len(a.Clusters) <= 32 &&
		rises(a.Comms, func(x, y uint32) bool { return x < y }) && rises(a.Exts, func(x, y uint64) bool { return x < y }) && rises(a.Larges, large)
}

func rightRoute(r api.Route) bool {
	return rightPrefix(r.Prefix) && rightAttrs(r.Attrs) && (r.Peer == "" || isName(r.Peer))
}

func rightSet(s api.Set) bool {
	for kind, n := range map[int]int{1: len(s.Items), 2: len(s.Comms), 3: len(s.Paths)} {
		if n > most || n > 0 && kind != s.Kind {
			return false
		}
	}
	for _, x := range s.Items {
		if !rightPrefix(x.Prefix) || x.Low < x.Prefix.Len || x.High < x.Low || x.High > bits[x.Prefix.Fam] {
			return false
		}
	}
	for _, p := range s.Paths {
		for _, a := range p {
			if a.Kind < 1 || a.Kind > 3 || (a.Kind == 1) != (a.AS > 0) {
				return false
			}
		}
		if len(p) > most {
			return false
		}
	}
	return isName(s.Name) && s.Kind >= 1 && s.Kind <= 3 && rises(s.Comms, func(x, y uint32) bool { return x < y })
}

func rightSets(l []api.Set) bool {
	met := map[string]bool{}
	for _, s := range l {
		if met[s.Name] || !rightSet(s) {
			return false
		}
		met[s.Name] = true
	}
	return true
}

// setAt is the place of the set of that name and of that kind; -1, if there is none.
func setAt(l []api.Set, name string, kind int) int {
	return slices.IndexFunc(l, func(s api.Set) bool { return s.Name == name && s.Kind == kind })
}

// named tells whether the sets that a condition and an action ask are there.
func named(c api.Cond, a api.Action, l []api.Set) bool {
	if c.Kind >= 1 && c.Kind <= 3 && setAt(l, c.Name, c.Kind) < 0 {
		return false
	}
	return a.Kind != 7 || setAt(l, a.Name, 2) >= 0
}

func rightIns(ins api.Ins, at, n int) bool {
	noCond, noAct := ins.Cond == api.Cond{}, ins.Act == api.Action{}
	switch ins.Kind {
	case 1:
		return rightCond(ins.Cond) && noAct && ins.N == 0 && at < ins.To && ins.To < n
	case 2:
		return rightAction(ins.Act) && noCond && ins.N == 0 && ins.To == 0
	case 3:
		return noCond && noAct && ins.To == 0 && (ins.N == 0 || ins.N == 1)
	}
	return false
}

// modelCheck is Check.
func modelCheck(p api.Program) api.Errno {
	n := len(p.Ins)
	if n == 0 || !rightSets(p.Sets) {
		return 2
	}
	for at, ins := range p.Ins {
		if !rightIns(ins, at, n) || (ins.Kind == 3) != (at == n-1) {
			return 2
		}
	}
	for _, ins := range p.Ins {
		if !named(ins.Cond, ins.Act, p.Sets) {
			return 8
		}
	}
	return 0
}

// matches tells whether a pattern matches, by all ways to cut the list.
func matches(p []api.Atom, l []uint32) bool {
	if len(p) == 0 {
		return len(l) == 0
	}
	if p[0].Kind == 3 {
		for i := range len(l) + 1 {
			if matches(p[1:], l[i:]) {
				return true
			}
		}
		return false
	}
	return len(l) > 0 && (p[0].Kind == 2 || p[0].AS == l[0]) && matches(p[1:], l[1:])
}

func inPrefixes(s api.Set, p api.Prefix) bool {
	return slices.ContainsFunc(s.Items, func(x api.Item) bool {
		q := x.Prefix
		return q.Fam == p.Fam && q.RD == p.RD && x.Low <= p.Len && p.Len <= x.High && strings.HasPrefix(bitText(p.Addr)[:p.Len], bitText(q.Addr)[:q.Len])
	})
}

func inPaths(s api.Set, l []api.Seg) bool {
	var flat []uint32
	for _, seg := range l {
		flat = append(flat, seg.AS...)
	}
	return slices.ContainsFunc(s.Paths, func(p []api.Atom) bool { return matches(p, flat) })
}

func pathLength(l []api.Seg) int {
	n := 0
	for _, seg := range l {
		n += map[int]int{1: 1, 2: len(seg.AS)}[seg.Kind]
	}
	return n
}

// modelHolds is Holds.
func modelHolds(c api.Cond, l []api.Set, r api.Route) (bool, api.Errno) {
	if !rightCond(c) || !rightSets(l) || !rightRoute(r) {
		return false, 2
	}
	if !named(c, api.Action{}, l) {
		return false, 8
	}
	return truth(c, l, r), 0
}

// truth is what a condition says of a route, of those that may be.
func truth(c api.Cond, l []api.Set, r api.Route) bool {
	var s api.Set
	if c.Kind <= 3 {
		s = l[setAt(l, c.Name, c.Kind)]
	}
	var is bool
	switch c.Kind {
	case 1:
		is = inPrefixes(s, r.Prefix)
	case 2:
		is = slices.ContainsFunc(s.Comms, func(x uint32) bool { return slices.Contains(r.Attrs.Comms, x) })
	case 3:
		is = inPaths(s, r.Attrs.Path)
	case 4:
		is = r.Peer == c.Name
	case 5:
		is = r.Attrs.Origin == c.N
	case 6:
		is = pathLength(r.Attrs.Path) <= c.N
	case 7:
		is = r.Prefix.Fam == c.N
	}
	if c.Not {
		return !is
	}
	return is
}

// modelAct is Act.
func modelAct(a api.Action, l []api.Set, as uint32, r api.Route) (api.Route, api.Errno) {
	if !rightAction(a) || !rightSets(l) || !rightRoute(r) || a.Kind == 8 && as == 0 {
		return api.Route{}, 2
	}
	if !named(api.Cond{}, a, l) {
		return api.Route{}, 8
	}
	return done(a, l, as, r)
}

// done is what an action does to a route, of those that may be.
func done(a api.Action, l []api.Set, as uint32, r api.Route) (api.Route, api.Errno) {
	r = deep(r)
	x := &r.Attrs
	switch a.Kind {
	case 3:
		x.HasPref, x.Pref = true, a.N
	case 4:
		x.HasMed, x.Med = true, a.N
	case 5:
		x.HasMed, x.Med = false, 0
	case 6:
		if slices.Contains(x.Comms, a.N) {
			break
		}
		if len(x.Comms) >= most {
			return api.Route{}, 7
		}
		x.Comms = append(x.Comms, a.N)
		slices.Sort(x.Comms)
	case 7:
		gone := l[setAt(l, a.Name, 2)].Comms
		x.Comms = slices.DeleteFunc(x.Comms, func(c uint32) bool { return slices.Contains(gone, c) })
	case 8:
		for range a.N {
			if len(x.Path) > 0 && x.Path[0].Kind == 2 && len(x.Path[0].AS) < 255 {
				x.Path[0].AS = slices.Insert(x.Path[0].AS, 0, as)
			} else if len(x.Path) < 16 {
				x.Path = slices.Insert(x.Path, 0, api.Seg{Kind: 2, AS: []uint32{as}})
			} else {
				return api.Route{}, 3
			}
		}
	case 9:
		x.Next = a.Addr
	case 10:
		x.Origin = int(a.N)
	}
	return r, 0
}

// modelRun is Run: what is done at a place, and then what is answered from the next one on. It tells how many instructions were met, too.
func modelRun(p api.Program, as uint32, r api.Route) (a api.Attrs, is bool, err api.Errno, met int) {
	if err := modelCheck(p); err != 0 {
		return api.Attrs{}, false, err, 0
	}
	if !rightRoute(r) {
		return api.Attrs{}, false, 2, 0
	}
	a, is, err = runFrom(p, 0, as, r, &met)
	return a, is, err, met
}

func runFrom(p api.Program, at int, as uint32, r api.Route, met *int) (api.Attrs, bool, api.Errno) {
	ins := p.Ins[at]
	*met++
	switch {
	case ins.Kind == 3 && ins.N == 1, ins.Act.Kind == 1:
		return deep(r).Attrs, true, 0
	case ins.Kind == 3, ins.Act.Kind == 2:
		return api.Attrs{}, false, 0
	case ins.Kind == 1 && truth(ins.Cond, p.Sets, r):
		return runFrom(p, at+1, as, r, met)
	case ins.Kind == 1:
		return runFrom(p, ins.To, as, r, met)
	}
	if ins.Act.Kind == 8 && as == 0 {
		return api.Attrs{}, false, 2
	}
	r, err := done(ins.Act, p.Sets, as, r)
	if err != 0 {
		return api.Attrs{}, false, err
	}
	return runFrom(p, at+1, as, r, met)
}

// byTerms is what P17.5 says of a policy: its terms one by one, without instructions.
func byTerms(p api.Policy, l []api.Set, as uint32, r api.Route) (api.Attrs, bool, api.Errno) {
	for _, t := range p.Terms {
		if slices.ContainsFunc(t.Conds, func(c api.Cond) bool { return !truth(c, l, r) }) {
			continue
		}
		for _, a := range t.Actions {
			switch {
			case a.Kind == 1:
				return r.Attrs, true, 0
			case a.Kind == 2:
				return api.Attrs{}, false, 0
			case a.Kind == 8 && as == 0:
				return api.Attrs{}, false, 2
			}
			var err api.Errno
			if r, err = done(a, l, as, r); err != 0 {
				return api.Attrs{}, false, err
			}
		}
	}
	if !p.Else {
		return api.Attrs{}, false, 0
	}
	return r.Attrs, true, 0
}
