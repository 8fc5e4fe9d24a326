package conf

import (
	"iter"
	"slices"
	"strings"

	"herald/api"
	"herald/wire"
)

// The kinds of lines, in the order in which they stand; none is what stands ahead of all of them.
const (
	none = iota
	lineAs
	lineId
	lineAddr
	lineConfed
	lineMember
	lineCluster
	lineLabels
	lineVrf
	lineImport
	lineExport
	linePeer
	lineStatic
	lineSet
	lineItem
	linePolicy
	lineTerm
)

// row is what is known of a kind of lines: its first word, from which to which kind the line ahead of it may be, and what its other words mean.
type row struct {
	word        string
	first, last int
	read        func(c *api.Config, w *words)
}

// rows stand at the kinds of lines.
func rows() []row {
	return []row{
		lineAs:      {wordAs, none, none, func(c *api.Config, w *words) { c.AS = w.number32() }},
		lineId:      {wordId, lineAs, lineAs, readId},
		lineAddr:    {wordAddr, lineId, lineId, func(c *api.Config, w *words) { c.Addr = w.ownAddr() }},
		lineConfed:  {wordConfed, lineAddr, lineAddr, readConfed},
		lineMember:  {wordMember, lineAddr, lineMember, func(c *api.Config, w *words) { c.Members = append(c.Members, w.number32()) }},
		lineCluster: {wordCluster, lineAddr, lineMember, readCluster},
		lineLabels:  {wordLabels, lineAddr, lineCluster, func(c *api.Config, w *words) { c.Low, c.High = w.number32(), w.number32() }},
		lineVrf:     {wordVrf, lineLabels, lineExport, readVrf},
		lineImport:  {wordImport, lineVrf, lineImport, readImport},
		lineExport:  {wordExport, lineVrf, lineExport, readExport},
		linePeer:    {wordPeer, lineLabels, linePeer, readPeer},
		lineStatic:  {wordStatic, lineLabels, lineStatic, readStatic},
		lineSet:     {wordSet, lineLabels, lineItem, readSet},
		lineItem:    {wordItem, lineSet, lineItem, readItem},
		linePolicy:  {wordPolicy, lineLabels, lineTerm, readPolicy},
		lineTerm:    {wordTerm, linePolicy, lineTerm, readTerm},
	}
}

// lines tells the lines of a text by their numbers, each with the line feed behind it, if one is there.
func lines(s string) iter.Seq2[int, string] {
	return func(yield func(int, string) bool) {
		at := 0
		for line := range strings.Lines(s) {
			if !yield(at, line) {
				return
			}
			at++
		}
	}
}

// lineOf is the number of the first line of a thing, in a text that is right in form.
func lineOf(s string, t thing) int {
	for at, line := range lines(s) {
		word, _, _ := strings.Cut(line, blank)
		if word != t.word {
			continue
		}
		if t.at == 0 {
			return at
		}
		t.at--
	}
	return 0
}

// page is what has been read of a text: the configuration up to here, and the kind of the last line.
type page struct {
	rows []row
	conf api.Config
	last int
}

// take reads a line; false, if it is not right in form, has no line feed behind it, or may not stand behind those ahead.
func (p *page) take(line string) (right bool) {
	defer func() {
		if given := recover(); given != nil {
			// Of another type it would be a fault of the program, which must not pass for one of the text.
			_ = given.(wrong)
		}
	}()
	line, ends := strings.CutSuffix(line, lineFeed)
	need(ends)
	w := wordsOf(line)
	word := w.next()
	kind := slices.IndexFunc(p.rows, func(r row) bool { return r.word == word })
	need(kind > none)
	r := p.rows[kind]
	need(r.first <= p.last && p.last <= r.last)
	r.read(&p.conf, w)
	w.end()
	p.last = kind
	return true
}

func readId(c *api.Config, w *words) {
	id, _ := wire.New(w.ownAddr()).Number(addrSize)
	c.Id = uint32(id)
}

func readConfed(c *api.Config, w *words) {
	c.Confed = w.number32()
	need(c.Confed > 0)
}

func readCluster(c *api.Config, w *words) {
	c.Cluster = w.number32()
	need(c.Cluster > 0)
}

func readVrf(c *api.Config, w *words) {
	c.Vrfs = append(c.Vrfs, api.Vrf{Name: w.next(), RD: w.number(maxRD)})
}

func readImport(c *api.Config, w *words) {
	v := last(c.Vrfs)
	need(w.has(v.Name))
	v.Import = append(v.Import, w.target())
}

func readExport(c *api.Config, w *words) {
	v := last(c.Vrfs)
	need(w.has(v.Name))
	v.Export = append(v.Export, w.target())
}

func readPeer(c *api.Config, w *words) {
	p := api.Peer{Name: w.next()}
	if w.has(wordAddr) {
		p.Addr = w.addr()
	} else {
		need(w.has(wordRange))
		p.Range = w.prefix()
	}
	need(w.has(wordAs))
	p.AS = w.number32()
	for _, n := range numbers(&p) {
		need(w.has(n.word))
		*n.value = int(w.number32())
	}
	need(w.has(wordFams))
	for fam := w.fam(); fam > 0; fam = w.fam() {
		p.Fams = append(p.Fams, fam)
	}
	for _, f := range flags(&p) {
		*f.value = w.has(f.word)
	}
	for _, n := range named(&p) {
		if w.has(n.word) {
			*n.value = w.next()
		}
	}
	c.Peers = append(c.Peers, p)
}

func readStatic(c *api.Config, w *words) {
	var s api.Static
	if !w.has(noVrf) {
		s.Vrf = w.next()
	}
	s.Prefix = w.prefix()
	s.Next = w.addr()
	c.Statics = append(c.Statics, s)
}

func readSet(c *api.Config, w *words) {
	c.Sets = append(c.Sets, api.Set{Name: w.next(), Kind: w.place(setKinds())})
}

func readItem(c *api.Config, w *words) {
	s := last(c.Sets)
	need(w.has(s.Name))
	switch s.Kind {
	case api.SetPrefix:
		s.Items = append(s.Items, api.Item{Prefix: w.prefix(), Low: int(w.number(maxLen)), High: int(w.number(maxLen))})
	case api.SetComm:
		s.Comms = append(s.Comms, w.comm())
	case api.SetPath:
		s.Paths = append(s.Paths, w.pattern())
	}
}

func readPolicy(c *api.Config, w *words) {
	p := api.Policy{Name: w.next(), Else: w.has(wordAccept)}
	need(p.Else || w.has(wordReject))
	c.Rules = append(c.Rules, p)
}

func readTerm(c *api.Config, w *words) {
	p := last(c.Rules)
	need(w.has(p.Name))
	p.Terms = append(p.Terms, w.term())
}

// last is the last one of a list that has one.
func last[T any](l []T) *T { return &l[len(l)-1] }
