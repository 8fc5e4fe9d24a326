package conf

import (
	"math"
	"strconv"
	"strings"

	"herald/api"
	"herald/comm"
	"herald/polc"
	"herald/prim"
	"herald/sets"
	"herald/wire"
)

// lineFeed stands behind each line.
const lineFeed = "\n"

// The words with which lines begin; some of them stand in the lines of peers, too.
const (
	wordAs      = "as"
	wordId      = "id"
	wordAddr    = "addr"
	wordConfed  = "confed"
	wordMember  = "member"
	wordCluster = "cluster"
	wordLabels  = "labels"
	wordVrf     = "vrf"
	wordImport  = "import"
	wordExport  = "export"
	wordPeer    = "peer"
	wordStatic  = "static"
	wordSet     = "set"
	wordItem    = "item"
	wordPolicy  = "policy"
	wordTerm    = "term"
)

// The other words.
const (
	wordRange  = "range"
	wordFams   = "fams"
	wordAccept = "accept"
	wordReject = "reject"
	noVrf      = "-"
)

// Up to where numbers are right in form that are not of 32 bits.
const (
	maxRD  = math.MaxUint64
	maxLen = math.MaxUint8
)

// famNames stand at the families' numbers.
func famNames() []string {
	return []string{api.V4: "v4", api.V6: "v6", api.L4: "l4", api.Vpn4: "vpn4", api.Vpn6: "vpn6"}
}

// setKinds stand at the kinds of sets.
func setKinds() []string {
	return []string{api.SetPrefix: "prefix", api.SetComm: "comm", api.SetPath: "path"}
}

// part is a field of a peer that stands behind a word of its own, or is told by that word alone.
type part[T any] struct {
	word  string
	value *T
}

// numbers are those of a peer's parts that are numbers, in their order.
func numbers(p *api.Peer) []part[int] {
	return []part[int]{{"hold", &p.Hold}, {"retry", &p.Retry}, {"mrai", &p.Mrai}, {"send", &p.Send}, {"most", &p.Most}, {"time", &p.Time}}
}

// flags are those that are told by a word alone, in their order.
func flags(p *api.Peer) []part[bool] {
	return []part[bool]{{"passive", &p.Passive}, {"client", &p.Client}, {wordConfed, &p.Confed}, {"take", &p.Take}, {"gr", &p.GR}, {"selfnext", &p.SelfNext}}
}

// named are those that are names, in their order.
func named(p *api.Peer) []part[string] {
	return []part[string]{{"in", &p.In}, {"out", &p.Out}, {wordVrf, &p.Vrf}}
}

// sheet is a text that grows line by line.
type sheet struct{ text strings.Builder }

func (s *sheet) line(words ...string) {
	s.text.WriteString(strings.Join(words, blank) + lineFeed)
}

// textOf is the text of a configuration that may be.
func textOf(c api.Config) string {
	s := &sheet{}
	s.head(c)
	for _, v := range c.Vrfs {
		s.vrf(v)
	}
	for _, p := range c.Peers {
		s.line(peerWords(p)...)
	}
	for _, r := range c.Statics {
		s.static(r)
	}
	for _, l := range c.Sets {
		s.set(l)
	}
	for _, p := range c.Rules {
		s.rule(p)
	}
	return s.text.String()
}

// head writes what stands ahead of all lists but that of the members.
func (s *sheet) head(c api.Config) {
	id, _ := wire.Put("", uint64(c.Id), addrSize)
	s.line(wordAs, digits(c.AS))
	s.line(wordId, addrText(id))
	s.line(wordAddr, addrText(c.Addr))
	if c.Confed > 0 {
		s.line(wordConfed, digits(c.Confed))
	}
	for _, m := range c.Members {
		s.line(wordMember, digits(m))
	}
	if c.Cluster > 0 {
		s.line(wordCluster, digits(c.Cluster))
	}
	s.line(wordLabels, digits(c.Low), digits(c.High))
}

func (s *sheet) vrf(v api.Vrf) {
	s.line(wordVrf, v.Name, digits(v.RD))
	for _, x := range v.Import {
		s.line(wordImport, v.Name, targetText(x))
	}
	for _, x := range v.Export {
		s.line(wordExport, v.Name, targetText(x))
	}
}

func peerWords(p api.Peer) []string {
	words := []string{wordPeer, p.Name}
	if p.Addr != "" {
		words = append(words, wordAddr, addrText(p.Addr))
	} else {
		words = append(words, wordRange, prefixText(p.Range))
	}
	words = append(words, wordAs, digits(p.AS))
	for _, n := range numbers(&p) {
		words = append(words, n.word, digits(*n.value))
	}
	words = append(words, wordFams)
	for _, fam := range p.Fams {
		words = append(words, famNames()[fam])
	}
	for _, f := range flags(&p) {
		if *f.value {
			words = append(words, f.word)
		}
	}
	for _, n := range named(&p) {
		if *n.value != "" {
			words = append(words, n.word, *n.value)
		}
	}
	return words
}

func (s *sheet) static(r api.Static) {
	vrf := r.Vrf
	if vrf == "" {
		vrf = noVrf
	}
	s.line(wordStatic, vrf, prefixText(r.Prefix), addrText(r.Next))
}

// set writes a set: of its three lists those of the other kinds are empty.
func (s *sheet) set(l api.Set) {
	s.line(wordSet, l.Name, setKinds()[l.Kind])
	for _, item := range l.Items {
		s.line(wordItem, l.Name, prefixText(item.Prefix), digits(item.Low), digits(item.High))
	}
	for _, c := range l.Comms {
		s.line(wordItem, l.Name, comm.Text(c))
	}
	for _, pattern := range l.Paths {
		text, _ := sets.Text(pattern)
		s.line(wordItem, l.Name, text)
	}
}

func (s *sheet) rule(p api.Policy) {
	verdict := wordReject
	if p.Else {
		verdict = wordAccept
	}
	s.line(wordPolicy, p.Name, verdict)
	for _, t := range p.Terms {
		text, _ := polc.TermText(t)
		s.line(wordTerm, p.Name, text)
	}
}

// addrText writes an address that may be.
func addrText(b string) string {
	text, _ := prim.AddrText(b)
	return text
}

// prefixText writes a prefix that may be.
func prefixText(p api.Prefix) string {
	text, _ := prim.Text(p)
	return text
}

// targetText writes a route target.
func targetText(x uint64) string { return digits(uint16(x>>32)) + colon + digits(uint32(x)) }

// digits writes a number that is not below 0.
func digits[T int | uint16 | uint32 | uint64](n T) string { return strconv.FormatUint(uint64(n), 10) }
