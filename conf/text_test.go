package conf_test

import (
	"math/rand"
	"slices"
	"strconv"
	"strings"
	"testing"

	"herald/api"
	"herald/conf"
)

// sized is a configuration whose text has n bytes.
func sized(n int) api.Config {
	c := small()
	left := n - len(smallText)
	ones := func(count, digits int) []api.Atom {
		as, _ := strconv.ParseUint(strings.Repeat("1", digits), 10, 32)
		return slices.Repeat([]api.Atom{{Kind: api.AtomAS, AS: uint32(as)}}, count)
	}
	for name := 'a'; left > 0; name++ {
		s := api.Set{Name: string(name), Kind: api.SetPath}
		left -= len("set a path\n")
		for len(s.Paths) < 64 && left > 1500 {
			s.Paths = append(s.Paths, ones(64, 10))
			left -= len("item a ") + 64*11
		}
		if left <= 1500 {
			// What is left goes into patterns of ASs of one digit, two bytes each, and of one more of two digits.
			for left > 200 {
				s.Paths = append(s.Paths, ones(64, 1))
				left -= len("item a ") + 64*2
			}
			count := (left - len("item a ")) / 2
			pattern := ones(min(count, 64), 1)
			for at := 0; len("item a ")+2*count < left || count > 64; at++ {
				pattern[at] = ones(1, 2)[0]
				left--
				count = (left - len("item a ")) / 2
			}
			s.Paths = append(s.Paths, pattern)
			left = 0
		}
		c.Sets = append(c.Sets, s)
	}
	return c
}

func TestP18_3Long(t *testing.T) {
	for _, n := range []int{60000, 65534, 65535, 65536, 65537, 65538, 66000, 70000, 131072, 131073} {
		c := sized(n)
		s := modelText(c)
		if len(s) != n {
			t.Fatalf("%d bytes, want %d", len(s), n)
		}
		wantRight(t, c)
		if n > 65536 {
			wantFault(t, s, api.ErrLong, 0)
			// That it is too long is told ahead of all that is wrong.
			wantFault(t, "x"+s[1:], api.ErrLong, 0)
			wantFault(t, strings.Replace(s, "as 65000", "as 00000", 1), api.ErrLong, 0)
			wantFault(t, strings.TrimSuffix(s, "\n")+"x", api.ErrLong, 0)
		} else {
			wantFault(t, "x"+s[1:], api.ErrLine, 0)
			wantFault(t, s[:len(s)-1], api.ErrLine, strings.Count(s, "\n")-1)
			wantFault(t, s[:len(s)-1]+"x", api.ErrLine, strings.Count(s, "\n")-1)
		}
		// That it may not be is told ahead of its text being too long.
		c.Id = 0
		wantWrong(t, c, "id", 0)
	}
	for _, s := range []string{"\n", "a", "as 1\n", " ", "\x00", "\xff", "as ", "as 1", "item a 1\n"} {
		for _, n := range []int{65535, 65536, 65537, 65538, 1 << 17, 1 << 20} {
			wantTextAsModel(t, strings.Repeat(s, n/len(s)+1)[:n])
			wantTextAsModel(t, (smallText + strings.Repeat(s, n/len(s)+1))[:n])
		}
	}
	// As much as there may be of all: it has no text, for it would be too long.
	wantRight(t, largest())
}

// largest has as much of all as there may be.
func largest() api.Config {
	c := small()
	c.Confed = 1
	for i := range uint32(64) {
		c.Members = append(c.Members, 70000+i)
		c.Statics = append(c.Statics, api.Static{Prefix: api.Prefix{Fam: 1, Addr: string([]byte{9, byte(i), 0, 0}), Len: 24}, Next: next})
	}
	for i := range 8 {
		c.Vrfs = append(c.Vrfs, api.Vrf{Name: "v" + strconv.Itoa(i), RD: uint64(1 + i)})
		for k := range uint64(64) {
			c.Vrfs[i].Import = append(c.Vrfs[i].Import, target(k, 7))
			c.Vrfs[i].Export = append(c.Vrfs[i].Export, target(7, k))
		}
	}
	for i := range 16 {
		c.Peers = append(c.Peers, outer(2+i))
	}
	for i := range 32 {
		c.Sets = append(c.Sets, api.Set{Name: "s" + strconv.Itoa(i), Kind: 3, Paths: slices.Repeat([][]api.Atom{slices.Repeat([]api.Atom{{Kind: api.AtomAny}}, 64)}, 64)})
		c.Rules = append(c.Rules, api.Policy{Name: "r" + strconv.Itoa(i), Terms: slices.Repeat([]api.Term{{Actions: slices.Repeat([]api.Action{{Kind: api.DoNoMed}}, 64)}}, 64)})
	}
	return c
}

// vocabulary has words of the texts, and some that are none.
var vocabulary = []string{"as", "id", "addr", "confed", "member", "cluster", "labels", "vrf", "import", "export", "peer", "static", "set", "item", "policy", "term", "range", "hold", "fams", "v4", "vpn4", "passive", "client", "gr", "in", "out", "accept", "reject", "prefix", "comm", "path", "if", "then", "and", "0", "1", "01", "16", "255", "256", "65535", "65536", "4294967295", "4294967296", "18446744073709551615", "18446744073709551616", "10.0.0.1", "10.0.0.0/8", "1:2", "1:2:3:4:5:6:7:8", "no-export", "a", "b", "p", "v", "w", "A", "-", "*", ".", ""}

// What stands next to a text, a byte or a word of it left out, put in, doubled, changed, is a text just if the model says so, and comes back then.
func TestP18_5Near(t *testing.T) {
	right, others := 0, 0
	try := func(s string) {
		if wantTextAsModel(t, s) {
			right++
		} else {
			others++
		}
	}
	r := rand.New(rand.NewSource(18))
	for i := range len(fullText) {
		try(fullText[:i] + fullText[i+1:])
		try(fullText[:i] + fullText[i:i+1] + fullText[i:])
		try(fullText[:i])
		marks := " \n019azAZ-:.*/\x00\xff"
		for range 3 {
			c := string(marks[r.Intn(len(marks))])
			try(fullText[:i] + c + fullText[i:])
			try(fullText[:i] + c + fullText[i+1:])
		}
	}
	lines := strings.SplitAfter(strings.TrimSuffix(fullText, "\n"), "\n")
	for i, line := range lines {
		words := strings.Split(strings.TrimSuffix(line, "\n"), " ")
		put := func(l []string) {
			try(strings.Join(lines[:i], "") + strings.Join(l, " ") + "\n" + strings.Join(lines[i+1:], "") + "\n")
		}
		for k := range words {
			put(slices.Delete(slices.Clone(words), k, k+1))
			put(slices.Insert(slices.Clone(words), k, words[k]))
			for range 8 {
				other := slices.Clone(words)
				other[k] = vocabulary[r.Intn(len(vocabulary))]
				put(other)
				put(slices.Insert(slices.Clone(words), k, vocabulary[r.Intn(len(vocabulary))]))
			}
		}
	}
	if right < 300 || others < 5000 {
		t.Errorf("%d are texts, %d are not", right, others)
	}
}

// pick takes one of a list.
func pick[T any](r *rand.Rand, l ...T) T { return l[r.Intn(len(l))] }

// some is each of a list with that chance in a hundred.
func some[T any](r *rand.Rand, chance int, l ...T) []T {
	return slices.DeleteFunc(slices.Clone(l), func(T) bool { return r.Intn(100) >= chance })
}

// randomConfig may be rather often; odd is the chance in a hundred that a thing has something that is not as usual.
func randomConfig(r *rand.Rand, odd int) api.Config {
	is := func() bool { return r.Intn(100) < odd }
	c := api.Config{AS: pick[uint32](r, 1, 65000, 70000), Id: 1 + r.Uint32()>>1, Addr: host(r.Intn(256)), Confed: pick[uint32](r, 0, 100), Cluster: pick(r, 0, r.Uint32()), Low: uint32(16 + r.Intn(9)), High: uint32(25 + r.Intn(1000))}
	if c.Confed > 0 || is() {
		c.Members = some[uint32](r, 60, 1, 65000, 65001, 65002, 70000)
	}
	if is() {
		c.Members = append(c.Members, 7)
	}
	for i := range r.Intn(4) {
		v := api.Vrf{Name: pick(r, "v", "w", "x", "y", "in", "vrf") + strconv.Itoa(i), RD: r.Uint64()>>r.Intn(63) + 1}
		v.Import, v.Export = some(r, 40, target(1, 1), target(1, 2), target(2, 0)), some(r, 40, target(0, 1), target(1, 2), target(65535, 1))
		if is() {
			v.RD, v.Export = uint64(r.Intn(3)), append(v.Export, target(0, 1))
		}
		c.Vrfs = append(c.Vrfs, v)
	}
	c.Sets = some(r, 70, full().Sets...)
	if is() {
		c.Sets = append(c.Sets, api.Set{Name: pick(r, "a", "e"), Kind: 2, Comms: []uint32{pick[uint32](r, 1, 2), 2}})
	}
	for i := range r.Intn(4) {
		p := api.Policy{Name: pick(r, "p", "q", "out") + strconv.Itoa(i), Else: r.Intn(2) == 0}
		for range r.Intn(3) {
			x := api.Term{Actions: []api.Action{{Kind: api.DoMed, N: r.Uint32()}}}
			if len(c.Sets) > 0 {
				s := pick(r, c.Sets...)
				x.Conds = append(x.Conds, api.Cond{Kind: s.Kind, Not: r.Intn(2) == 0, Name: s.Name})
			}
			if is() {
				x.Conds = append(x.Conds, api.Cond{Kind: 1, Name: "b"})
			}
			p.Terms = append(p.Terms, x)
		}
		c.Rules = append(c.Rules, p)
	}
	for i := range r.Intn(5) {
		c.Peers = append(c.Peers, randomPeer(r, c, i, is))
	}
	for range r.Intn(4) {
		s := api.Static{Prefix: pick(r, ten, six, api.Prefix{Fam: 1, Addr: "\x00\x00\x00\x00", Len: r.Intn(33)}), Next: next}
		if len(s.Prefix.Addr) == 16 {
			s.Next = far
		}
		if len(c.Vrfs) > 0 && r.Intn(2) == 0 {
			s.Vrf = c.Vrfs[r.Intn(len(c.Vrfs))].Name
		}
		if is() {
			s.Vrf, s.Next = pick(r, "", "none"), pick(r, next, far)
		}
		c.Statics = append(c.Statics, s)
	}
	return c
}

func randomPeer(r *rand.Rand, c api.Config, i int, is func() bool) api.Peer {
	p := api.Peer{Name: pick(r, "a", "b", "addr", "range") + strconv.Itoa(i), Addr: host(i), AS: pick(r, c.AS, 65001, 65002), Hold: pick(r, 0, 3, 90, 65535), Retry: 1 + r.Intn(65535), Passive: r.Intn(2) == 0, Fams: some(r, 50, 1, 2, 3, 4, 5), Send: 1 + r.Intn(8), Take: r.Intn(2) == 0, Most: r.Intn(4097), Mrai: r.Intn(3601), SelfNext: r.Intn(2) == 0}
	if r.Intn(3) == 0 {
		p.Addr, p.Range, p.Passive = "", pick(r, ten, six), true
	}
	if p.GR = r.Intn(2) == 0; p.GR {
		p.Time = r.Intn(4096)
	}
	p.Client = p.AS == c.AS && r.Intn(2) == 0
	p.Confed = p.AS != c.AS && c.Confed > 0 && slices.Contains(c.Members, p.AS) && r.Intn(2) == 0
	if len(c.Rules) > 0 {
		p.In, p.Out = pick(r, "", c.Rules[0].Name), pick(r, "", c.Rules[len(c.Rules)-1].Name)
	}
	if len(c.Vrfs) > 0 && p.AS != c.AS && !p.Confed && r.Intn(2) == 0 {
		p.Vrf, p.Fams = c.Vrfs[0].Name, some(r, 60, 1, 2)
	}
	if len(p.Fams) == 0 {
		p.Fams = []int{1}
	}
	if is() {
		switch r.Intn(8) {
		case 0:
			p.Client, p.Confed = true, r.Intn(2) == 0
		case 1:
			p.Hold, p.Retry = r.Intn(4), r.Intn(3)
		case 2:
			p.Fams = append(p.Fams, 1+r.Intn(5))
		case 3:
			p.Addr, p.Range = host(0), api.Prefix{}
		case 4:
			p.Vrf = "v0"
		case 5:
			p.In = pick(r, "p0", "p1")
		case 6:
			p.Time, p.Send = r.Intn(2), r.Intn(10)
		case 7:
			p.Name = pick(r, "a0", "b1", "B")
		}
	}
	return p
}

// Configurations that may be come back from their texts, and texts from them.
func TestP18_5Random(t *testing.T) {
	r := rand.New(rand.NewSource(5))
	right := 0
	for right < 2000 {
		// Two statics of one prefix are among them.
		if c := randomConfig(r, 0); len(wrongThings(c)) == 0 {
			right++
			wantRight(t, c)
		}
	}
}

// A configuration that may not be has no text; of one that stands for it some line is told, which is that of a thing that is wrong.
func TestP18_6Random(t *testing.T) {
	r := rand.New(rand.NewSource(7))
	right, wrong := 0, 0
	for i := range 4000 {
		c := randomConfig(r, []int{3, 20}[i%2])
		l := wrongThings(c)
		if len(l) == 0 {
			right++
			wantRight(t, c)
			continue
		}
		if !wantWrong(t, c, l[0].line, l[0].at) {
			t.Errorf("there is no text of %s", short(c))
		}
		wrong++
		wantLineOfWrong(t, c, l)
	}
	if right < 1000 || wrong < 1000 {
		t.Errorf("%d are right, %d wrong", right, wrong)
	}
}

// wantLineOfWrong looks whether the line that is told is that of one of the wrong things.
func wantLineOfWrong(t *testing.T, c api.Config, wrong []thing) {
	t.Helper()
	s := modelText(c)
	_, err := conf.Parse(s)
	f, is := err.(*api.Fault)
	if !is || !slices.ContainsFunc(wrong, func(x thing) bool { return f.At == modelLine(s, x) }) {
		t.Errorf("Parse(%.1500q): %+v, want a line of %+v", s, f, wrong)
	}
}

// Lines one behind the other, of any kinds, that make a text rather often.
func TestP18_5RandomLines(t *testing.T) {
	r := rand.New(rand.NewSource(6))
	lines := strings.SplitAfter(strings.TrimSuffix(fullText, "\n"), "\n")[8:]
	right := 0
	for range 20000 {
		at := 0
		s := smallText
		for range r.Intn(6) {
			if r.Intn(5) == 0 {
				s += pick(r, lines...)
				continue
			}
			at = min(at+r.Intn(12), len(lines)-1)
			s += strings.TrimSuffix(lines[at], "\n") + "\n"
		}
		if wantTextAsModel(t, s) {
			right++
		}
	}
	if right < 1000 {
		t.Errorf("%d of the texts are configurations", right)
	}
}
