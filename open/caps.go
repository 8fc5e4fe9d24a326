package open

import (
	"cmp"
	"slices"

	"herald/api"
	"herald/reach"
	"herald/wire"
)

// The codes of capabilities that are known.
const (
	capFam     = 1
	capRefresh = 2
	capRestart = 64
	capFour    = 65
	capAdds    = 69
)

// The sizes of what is in capabilities.
const (
	afiSize   = 2
	safiSize  = 1
	pairSize  = 4 // of a family's capability: there is a byte between AFI and SAFI
	timeSize  = 2
	entrySize = 4 // AFI, SAFI, and a byte that tells something of their family
	longSize  = 4 // of an AS
)

// Bits of what is in capabilities.
const (
	againBit = 0x8000 // of a restart's time
	keptBit  = 0x80
	takeBit  = 1
	sendBit  = 2
)

// capsOf lays the capabilities of an open that may be.
func capsOf(o api.Open) string {
	caps := ""
	for _, fam := range o.Fams {
		afi, safi, _ := reach.Afi(fam)
		caps += piece(capFam, put(put("", uint64(afi), afiSize), uint64(safi), pairSize-afiSize))
	}
	if o.Refresh {
		caps += piece(capRefresh, "")
	}
	if o.HasGR {
		caps += piece(capRestart, restartOf(o))
	}
	if o.Four {
		caps += piece(capFour, put("", uint64(o.AS), longSize))
	}
	if len(o.Adds) > 0 {
		caps += piece(capAdds, addsOf(o))
	}
	return caps
}

// restartOf lays what an open says of restarts.
func restartOf(o api.Open) string {
	value := put("", uint64(o.Time)|flag(o.Again, againBit), timeSize)
	for _, r := range o.Kept {
		value += entry(r.Fam, flag(r.Kept, keptBit))
	}
	return value
}

// addsOf lays what an open says of path ids.
func addsOf(o api.Open) string {
	value := ""
	for _, a := range o.Adds {
		value += entry(a.Fam, flag(a.Take, takeBit)|flag(a.Send, sendBit))
	}
	return value
}

// flag is a bit that is set, if it is so.
func flag(so bool, bit uint64) uint64 {
	if so {
		return bit
	}
	return 0
}

// entry lays a family's pair, and what is told of it.
func entry(fam int, flags uint64) string {
	afi, safi, _ := reach.Afi(fam)
	return put(put(put("", uint64(afi), afiSize), uint64(safi), safiSize), flags, byteSize)
}

// taker answers what takes capabilities into the open, one by one, and tells what is wrong with one.
func taker(o *api.Open) func(code uint8, value string) api.Verdict {
	return func(code uint8, value string) api.Verdict {
		if !fits(code, len(value)) {
			return reset(badForm)
		}
		r := wire.New(value)
		switch code {
		case capFam:
			takeFam(o, r)
		case capRefresh:
			o.Refresh = true
		case capRestart:
			takeRestart(o, r)
		case capFour:
			as, _ := r.Number(longSize)
			if as == 0 {
				return reset(badAS)
			}
			o.AS, o.Four = uint32(as), true
		case capAdds:
			takeAdds(o, r)
		}
		return api.Verdict{}
	}
}

// fits tells whether so many bytes may follow a capability's code; of one that is not known nobody can tell.
func fits(code uint8, size int) bool {
	switch code {
	case capFam:
		return size == pairSize
	case capFour:
		return size == longSize
	case capRestart:
		size -= timeSize
		fallthrough
	case capAdds:
		return size >= 0 && size%entrySize == 0
	}
	return true
}

// takeFam takes a family's pair; a pair of no family is passed by. The byte between the two may be any.
func takeFam(o *api.Open, r *wire.Reader) {
	pair, _ := r.Number(pairSize)
	fam := reach.Fam(uint16(pair>>16), uint8(pair))
	if fam != 0 {
		o.Fams = placed(o.Fams, fam, itself)
	}
}

// takeRestart takes what is told of restarts, in the place of what was told ahead.
func takeRestart(o *api.Open, r *wire.Reader) {
	time, _ := r.Number(timeSize)
	o.HasGR, o.Again, o.Time, o.Kept = true, time&againBit != 0, int(time&maxTime), nil
	eachEntry(r, func(fam int, flags uint8) {
		o.Kept = placed(o.Kept, api.Restart{Fam: fam, Kept: flags&keptBit != 0}, restartFam)
	})
}

// takeAdds takes what is told of path ids, in the place of what was told ahead.
func takeAdds(o *api.Open, r *wire.Reader) {
	o.Adds = nil
	eachEntry(r, func(fam int, flags uint8) {
		// An entry that says something else counts for nothing: one ahead of it, of the same family, still holds.
		if flags >= takeBit && flags <= takeBit|sendBit {
			o.Adds = placed(o.Adds, api.Add{Fam: fam, Send: flags&sendBit != 0, Take: flags&takeBit != 0}, addFam)
		}
	})
}

// eachEntry hands the entries that are left to take; those of no family are passed by.
func eachEntry(r *wire.Reader, take func(fam int, flags uint8)) {
	for e, is := r.Number(entrySize); is; e, is = r.Number(entrySize) {
		if fam := reach.Fam(uint16(e>>16), uint8(e>>8)); fam != 0 {
			take(fam, uint8(e))
		}
	}
}

// placed puts an entry at its place into a list that is rising by families; one that was there is gone.
func placed[E any](l []E, e E, famOf func(E) int) []E {
	at, there := slices.BinarySearchFunc(l, famOf(e), func(x E, fam int) int { return cmp.Compare(famOf(x), fam) })
	if there {
		l[at] = e
		return l
	}
	return slices.Insert(l, at, e)
}
