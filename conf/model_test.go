package conf_test

import (
	"fmt"
	"net/netip"
	"regexp"
	"slices"
	"strconv"
	"strings"

	"herald/api"
	"herald/comm"
	"herald/polc"
	"herald/sets"
)

// thing is one of a configuration: the word with which its first line begins, and how many of that word stand ahead of it.
type thing struct {
	line string
	at   int
}

var (
	nameForm = regexp.MustCompile(`\A[a-z][a-z0-9-]{0,15}\z`)
	sizes    = map[int]int{1: 4, 2: 16, 3: 4, 4: 4, 5: 16}
	famNames = []string{"", "v4", "v6", "l4", "vpn4", "vpn6"}
)

func rightName(s string) bool { return nameForm.MatchString(s) }

func rightPrefix(p api.Prefix) bool {
	addr, is := netip.AddrFromSlice([]byte(p.Addr))
	if !is || sizes[p.Fam] != len(p.Addr) || p.Len < 0 || p.Len > 8*len(p.Addr) || p.RD != 0 && p.Fam < 4 {
		return false
	}
	return netip.PrefixFrom(addr, p.Len).Masked().Addr() == addr
}

func plainPrefix(p api.Prefix) bool { return p.Fam <= 2 && rightPrefix(p) }

// wrongThings is the model of which things are wrong: row by row of the document, each thing by itself.
func wrongThings(c api.Config) []thing {
	var l []thing
	tell := func(holds bool, line string, at int) {
		if !holds {
			l = append(l, thing{line, at})
		}
	}
	tell(c.AS != 0, "as", 0)
	tell(c.Id != 0, "id", 0)
	tell(len(c.Addr) == 4, "addr", 0)
	for i, m := range c.Members {
		tell(m != 0 && (i == 0 || m > c.Members[i-1]) && c.Confed != 0 && len(c.Members) <= 64, "member", i)
	}
	tell(c.Low >= 16 && c.High >= c.Low && c.High <= 1048575, "labels", 0)
	for i := range c.Vrfs {
		tell(rightVrf(c, i), "vrf", i)
	}
	for i := range c.Peers {
		tell(rightPeer(c, i), "peer", i)
	}
	for i := range c.Statics {
		tell(rightStatic(c, i), "static", i)
	}
	for i, s := range c.Sets {
		ahead := slices.IndexFunc(c.Sets, func(o api.Set) bool { return o.Name == s.Name })
		tell(sets.Check(s) == api.OK && ahead == i && len(c.Sets) <= 32, "set", i)
	}
	for i, p := range c.Rules {
		ahead := slices.IndexFunc(c.Rules, func(o api.Policy) bool { return o.Name == p.Name })
		tell(polc.Check(p, c.Sets) == api.OK && ahead == i && len(c.Rules) <= 32, "policy", i)
	}
	return l
}

func rightVrf(c api.Config, i int) bool {
	v := c.Vrfs[i]
	for _, o := range c.Vrfs[:i] {
		if o.Name == v.Name || o.RD == v.RD {
			return false
		}
	}
	for _, l := range [][]uint64{v.Import, v.Export} {
		if len(l) > 64 || !slices.IsSorted(l) || len(slices.Compact(slices.Clone(l))) != len(l) {
			return false
		}
		for _, x := range l {
			if x < 0x0002_0000_0000_0000 || x > 0x0002_ffff_ffff_ffff {
				return false
			}
		}
	}
	return rightName(v.Name) && v.RD != 0 && len(c.Vrfs) <= 8
}

func rightPeer(c api.Config, i int) bool {
	p := c.Peers[i]
	for _, o := range c.Peers[:i] {
		if o.Name == p.Name || o.Addr == p.Addr && p.Addr != "" {
			return false
		}
	}
	byAddr := (len(p.Addr) == 4 || len(p.Addr) == 16) && p.Range == api.Prefix{}
	byRange := len(p.Addr) == 0 && plainPrefix(p.Range) && p.Passive
	if !rightName(p.Name) || !byAddr && !byRange || p.AS == 0 || len(c.Peers) > 16 {
		return false
	}
	if p.Hold < 0 || p.Hold == 1 || p.Hold == 2 || p.Hold > 65535 || p.Retry < 1 || p.Retry > 65535 || p.Mrai < 0 || p.Mrai > 3600 {
		return false
	}
	if p.Send < 1 || p.Send > 8 || p.Most < 0 || p.Most > 4096 || p.Time < 0 || p.Time > 4095 || p.Time != 0 && !p.GR {
		return false
	}
	if len(p.Fams) == 0 || !slices.IsSorted(p.Fams) || len(slices.Compact(slices.Clone(p.Fams))) != len(p.Fams) || p.Fams[0] < 1 || slices.Max(p.Fams) > 5 {
		return false
	}
	return rightNames(c, p) && rightPlace(c, p)
}

// rightNames is what holds of the names that a peer tells of other things.
func rightNames(c api.Config, p api.Peer) bool {
	rules := []string{""}
	for _, o := range c.Rules {
		rules = append(rules, o.Name)
	}
	return slices.Contains(rules, p.In) && slices.Contains(rules, p.Out) && slices.Contains(vrfNames(c), p.Vrf)
}

// rightPlace is what holds of a peer's AS, its confederation and its table.
func rightPlace(c api.Config, p api.Peer) bool {
	own := p.AS == c.AS
	if p.Client && !own {
		return false
	}
	if p.Confed && (own || c.Confed == 0 || !slices.Contains(c.Members, p.AS)) {
		return false
	}
	return p.Vrf == "" || slices.Max(p.Fams) <= 2 && !own && !p.Confed
}

func vrfNames(c api.Config) []string {
	l := []string{""}
	for _, v := range c.Vrfs {
		l = append(l, v.Name)
	}
	return l
}

func rightStatic(c api.Config, i int) bool {
	s := c.Statics[i]
	for _, o := range c.Statics[:i] {
		if o.Vrf == s.Vrf && o.Prefix == s.Prefix {
			return false
		}
	}
	return slices.Contains(vrfNames(c), s.Vrf) && plainPrefix(s.Prefix) && len(s.Next) == len(s.Prefix.Addr) && len(c.Statics) <= 64
}

// modelText is the text of a configuration; of one that may not be there is something that need not be right in form.
func modelText(c api.Config) string {
	var b strings.Builder
	line := func(form string, parts ...any) { fmt.Fprintf(&b, form+"\n", parts...) }
	line("as %d\nid %d.%d.%d.%d\naddr %s", c.AS, c.Id>>24, c.Id>>16&255, c.Id>>8&255, c.Id&255, modelAddr(c.Addr))
	if c.Confed != 0 {
		line("confed %d", c.Confed)
	}
	for _, m := range c.Members {
		line("member %d", m)
	}
	if c.Cluster != 0 {
		line("cluster %d", c.Cluster)
	}
	line("labels %d %d", c.Low, c.High)
	for _, v := range c.Vrfs {
		line("vrf %s %d", v.Name, v.RD)
		for _, x := range v.Import {
			line("import %s %d:%d", v.Name, x>>32&0xffff, x&0xffffffff)
		}
		for _, x := range v.Export {
			line("export %s %d:%d", v.Name, x>>32&0xffff, x&0xffffffff)
		}
	}
	for _, p := range c.Peers {
		line("%s", modelPeer(p))
	}
	for _, s := range c.Statics {
		vrf := s.Vrf
		if vrf == "" {
			vrf = "-"
		}
		line("static %s %s %s", vrf, modelPrefix(s.Prefix), modelAddr(s.Next))
	}
	for _, s := range c.Sets {
		line("%s", strings.Join(modelSet(s), "\n"))
	}
	for _, p := range c.Rules {
		line("policy %s %s", p.Name, map[bool]string{true: "accept", false: "reject"}[p.Else])
		for _, x := range p.Terms {
			text, _ := polc.TermText(x)
			line("term %s %s", p.Name, text)
		}
	}
	return b.String()
}

func modelPeer(p api.Peer) string {
	who := "addr " + modelAddr(p.Addr)
	if p.Addr == "" {
		who = "range " + modelPrefix(p.Range)
	}
	s := fmt.Sprintf("peer %s %s as %d hold %d retry %d mrai %d send %d most %d time %d fams", p.Name, who, p.AS, p.Hold, p.Retry, p.Mrai, p.Send, p.Most, p.Time)
	for _, fam := range p.Fams {
		s += " " + famName(fam)
	}
	for _, w := range []struct {
		is   bool
		word string
	}{{p.Passive, "passive"}, {p.Client, "client"}, {p.Confed, "confed"}, {p.Take, "take"}, {p.GR, "gr"}, {p.SelfNext, "selfnext"}, {p.In != "", "in " + p.In}, {p.Out != "", "out " + p.Out}, {p.Vrf != "", "vrf " + p.Vrf}} {
		if w.is {
			s += " " + w.word
		}
	}
	return s
}

func modelSet(s api.Set) []string {
	l := []string{fmt.Sprintf("set %s %s", s.Name, map[int]string{1: "prefix", 2: "comm", 3: "path"}[s.Kind])}
	for _, item := range s.Items {
		l = append(l, fmt.Sprintf("item %s %s %d %d", s.Name, modelPrefix(item.Prefix), item.Low, item.High))
	}
	for _, x := range s.Comms {
		l = append(l, fmt.Sprintf("item %s %s", s.Name, comm.Text(x)))
	}
	for _, pattern := range s.Paths {
		text, _ := sets.Text(pattern)
		l = append(l, fmt.Sprintf("item %s %s", s.Name, text))
	}
	return l
}

func famName(fam int) string {
	if fam < 1 || fam > 5 {
		return "?"
	}
	return famNames[fam]
}

func modelAddr(b string) string {
	if len(b) == 4 {
		return fmt.Sprintf("%d.%d.%d.%d", b[0], b[1], b[2], b[3])
	}
	var l []string
	for i := 0; i+1 < len(b); i += 2 {
		l = append(l, fmt.Sprintf("%x", int(b[i])*256+int(b[i+1])))
	}
	return strings.Join(l, ":")
}

func modelPrefix(p api.Prefix) string {
	s := famName(p.Fam) + " "
	if p.Fam >= 4 {
		s += fmt.Sprintf("%d ", p.RD)
	}
	return s + fmt.Sprintf("%s/%d", modelAddr(p.Addr), p.Len)
}

// The forms of lines. N is a number, A an address, P a prefix, W any word; the letters stand for the kinds of lines.
var forms = func() map[string]*regexp.Regexp {
	l := map[string]*regexp.Regexp{}
	for kind, form := range map[string]string{
		"a": `as (N)`, "i": `id (A)`, "d": `addr (A)`, "c": `confed (N)`, "m": `member (N)`, "k": `cluster (N)`, "l": `labels (N) (N)`,
		"v": `vrf (W) (N)`, "I": `import (W) (N):(N)`, "E": `export (W) (N):(N)`,
		"p": `peer (W) (?:addr (A)|range (P)) as (N) hold (N) retry (N) mrai (N) send (N) most (N) time (N) fams((?: (?:v4|v6|l4|vpn4|vpn6))*)( passive)?( client)?( confed)?( take)?( gr)?( selfnext)?(?: in (W))?(?: out (W))?(?: vrf (W))?`,
		"s": `static (W) (P) (A)`, "t": `set (W) (prefix|comm|path)`, "j": `item (W) (.*)`, "r": `policy (W) (accept|reject)`, "u": `term (W) (.*)`,
	} {
		form = strings.NewReplacer("(N)", "(0|[1-9][0-9]*)", "(A)", "([0-9a-f.:]+)", "(P)", "((?:v4|v6|l4|vpn4 [0-9]+|vpn6 [0-9]+) [^ \n]+)", "(W)", "([^ \n]+)").Replace(form)
		l[kind] = regexp.MustCompile(`\A(?s:` + form + `)\z`)
	}
	return l
}()

// letters are the kinds of the lines that begin with the words.
var letters = map[string]string{"as": "a", "id": "i", "addr": "d", "confed": "c", "member": "m", "cluster": "k", "labels": "l", "vrf": "v", "import": "I", "export": "E", "peer": "p", "static": "s", "set": "t", "item": "j", "policy": "r", "term": "u"}

// whole is the order of the lines; what of it stands behind the beginning of a text may be one of the ends.
var (
	whole = regexp.MustCompile(`\Aaidc?m*k?l(vI*E*)*p*s*(tj*)*(ru*)*\z`)
	ends  = []string{"", "l", "dl", "idl", "aidl"}
)

func mayStand(kinds string) bool {
	return slices.ContainsFunc(ends, func(end string) bool { return whole.MatchString(kinds + end) })
}

// modelForm is what stands in a text that is right in form: else false, and the number of the line that is not, or of how many lines there are.
func modelForm(s string) (api.Config, int, bool) {
	var c api.Config
	l := strings.Split(s, "\n")
	kinds := ""
	for at, line := range l[:len(l)-1] {
		kind := modelKind(line)
		kinds += kind
		if kind == "" || !mayStand(kinds) || !modelLineOf(&c, kind, forms[kind].FindStringSubmatch(line)[1:]) {
			return api.Config{}, at, false
		}
	}
	if l[len(l)-1] != "" || !whole.MatchString(kinds) {
		return api.Config{}, len(l) - 1, false
	}
	return c, 0, true
}

// modelKind is the letter of a line's kind; "", if it has the form of none.
func modelKind(line string) string {
	word, _, _ := strings.Cut(line, " ")
	kind := letters[word]
	if kind == "" || !forms[kind].MatchString(line) {
		return ""
	}
	return kind
}

// modelLineOf puts the parts of a line into the configuration; false, if one of them is not right.
func modelLineOf(c *api.Config, kind string, parts []string) bool {
	right := true
	number := func(at, bits int) uint64 {
		n, err := strconv.ParseUint(parts[at], 10, bits)
		right = right && err == nil
		return n
	}
	addr := func(at int) string {
		b := addrOf(parts[at])
		right = right && b != ""
		return b
	}
	switch kind {
	case "a":
		c.AS = uint32(number(0, 32))
	case "i":
		id := addr(0) + "\x00\x00\x00\x00"
		right = right && len(id) == 8
		c.Id = uint32(id[0])<<24 + uint32(id[1])<<16 + uint32(id[2])<<8 + uint32(id[3])
	case "d":
		c.Addr = addr(0)
		right = right && len(c.Addr) == 4
	case "c":
		c.Confed = uint32(number(0, 32))
		right = right && c.Confed > 0
	case "m":
		c.Members = append(c.Members, uint32(number(0, 32)))
	case "k":
		c.Cluster = uint32(number(0, 32))
		right = right && c.Cluster > 0
	case "l":
		c.Low, c.High = uint32(number(0, 32)), uint32(number(1, 32))
	case "v":
		c.Vrfs = append(c.Vrfs, api.Vrf{Name: parts[0], RD: number(1, 64)})
	case "I", "E":
		v := &c.Vrfs[len(c.Vrfs)-1]
		x := 2<<48 + number(1, 16)<<32 + number(2, 32)
		right = right && v.Name == parts[0]
		if kind == "I" {
			v.Import = append(v.Import, x)
		} else {
			v.Export = append(v.Export, x)
		}
	case "p":
		p, is := modelPeerOf(parts)
		c.Peers = append(c.Peers, p)
		return is
	case "s":
		vrf := parts[0]
		if vrf == "-" {
			vrf = ""
		}
		p, is := prefixOf(parts[1])
		c.Statics = append(c.Statics, api.Static{Vrf: vrf, Prefix: p, Next: addr(2)})
		return right && is
	case "t":
		c.Sets = append(c.Sets, api.Set{Name: parts[0], Kind: map[string]int{"prefix": 1, "comm": 2, "path": 3}[parts[1]]})
	case "j":
		s := &c.Sets[len(c.Sets)-1]
		return s.Name == parts[0] && modelItem(s, parts[1])
	case "r":
		c.Rules = append(c.Rules, api.Policy{Name: parts[0], Else: parts[1] == "accept"})
	case "u":
		p := &c.Rules[len(c.Rules)-1]
		x, err := polc.Term(parts[1])
		p.Terms = append(p.Terms, x)
		return p.Name == parts[0] && err == nil
	}
	return right
}

func modelPeerOf(parts []string) (api.Peer, bool) {
	p := api.Peer{Name: parts[0], Addr: addrOf(parts[1])}
	right := p.Addr != ""
	if parts[1] == "" {
		p.Range, right = prefixOf(parts[2])
	}
	n := make([]int, 7)
	for i := range n {
		x, err := strconv.ParseUint(parts[3+i], 10, 32)
		n[i], right = int(x), right && err == nil
	}
	p.AS, p.Hold, p.Retry, p.Mrai, p.Send, p.Most, p.Time = uint32(n[0]), n[1], n[2], n[3], n[4], n[5], n[6]
	for _, fam := range strings.Fields(parts[10]) {
		p.Fams = append(p.Fams, slices.Index(famNames, fam))
	}
	p.Passive, p.Client, p.Confed, p.Take, p.GR, p.SelfNext = parts[11] != "", parts[12] != "", parts[13] != "", parts[14] != "", parts[15] != "", parts[16] != ""
	p.In, p.Out, p.Vrf = parts[17], parts[18], parts[19]
	return p, right
}

// modelItem puts an entry into a set.
func modelItem(s *api.Set, text string) bool {
	switch s.Kind {
	case 1:
		words := strings.Split(text, " ")
		n := len(words)
		if n < 3 {
			return false
		}
		p, is := prefixOf(strings.Join(words[:n-2], " "))
		low, err := strconv.ParseUint(words[n-2], 10, 8)
		high, err2 := strconv.ParseUint(words[n-1], 10, 8)
		s.Items = append(s.Items, api.Item{Prefix: p, Low: int(low), High: int(high)})
		return is && err == nil && err2 == nil && fmt.Sprintf("%d %d", low, high) == words[n-2]+" "+words[n-1]
	case 2:
		x, err := comm.Parse(text)
		s.Comms = append(s.Comms, x)
		return err == api.OK
	}
	pattern, err := sets.Parse(text)
	s.Paths = append(s.Paths, pattern)
	return err == api.OK
}

// addrOf reads an address; "", if it is none: what is written of it otherwise.
func addrOf(s string) string {
	base, mark := 10, "."
	if strings.Contains(s, ":") {
		base, mark = 16, ":"
	}
	var b []byte
	for _, word := range strings.Split(s, mark) {
		n, _ := strconv.ParseUint(word, base, 16)
		if base == 16 {
			b = append(b, byte(n>>8))
		}
		b = append(b, byte(n))
	}
	if len(b) != 4 && len(b) != 16 || modelAddr(string(b)) != s {
		return ""
	}
	return string(b)
}

// prefixOf reads a prefix.
func prefixOf(s string) (api.Prefix, bool) {
	words := strings.Split(s, " ")
	addr, size, _ := strings.Cut(words[len(words)-1], "/")
	n, _ := strconv.Atoi(size)
	p := api.Prefix{Fam: slices.Index(famNames, words[0]), Addr: addrOf(addr), Len: n}
	if len(words) == 3 {
		p.RD, _ = strconv.ParseUint(words[1], 10, 64)
	}
	return p, rightPrefix(p) && modelPrefix(p) == s
}

// modelLine is the number of the first line of a thing.
func modelLine(s string, t thing) int {
	for at, line := range strings.Split(s, "\n") {
		if strings.HasPrefix(line, t.line+" ") {
			if t.at--; t.at < 0 {
				return at
			}
		}
	}
	return -1
}

// modelParse is what Parse answers; the fault has the Code OK where there is none.
func modelParse(s string) (api.Config, api.Fault) {
	if len(s) > 65536 {
		return api.Config{}, api.Fault{Code: 3}
	}
	c, at, is := modelForm(s)
	if !is {
		return api.Config{}, api.Fault{Code: 9, At: at}
	}
	if l := wrongThings(c); len(l) > 0 {
		return api.Config{}, api.Fault{Code: 10, At: modelLine(s, l[0])}
	}
	return c, api.Fault{}
}
