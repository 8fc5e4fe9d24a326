package conf

import (
	"slices"

	"herald/api"
	"herald/comm"
	"herald/polc"
	"herald/prim"
	"herald/sets"
)

// Numbers that the document gives peers, and how long the own address is.
const (
	minHold  = 3
	maxRetry = 65535
	maxMrai  = 3600
	maxTime  = 4095
	addrSize = 4
)

// thing is one of a configuration: the word with which its first line begins, and how many lines with that word stand ahead of it.
type thing struct {
	word string
	at   int
}

// things are all of one kind: how many there are, how many there may be, and whether the one at a place is right but for that.
type things struct {
	word        string
	count, most int
	right       func(at int) bool
}

// firstWrong answers the first thing that is wrong; false, if the configuration may be.
func firstWrong(c api.Config) (thing, bool) {
	for _, l := range thingsOf(c) {
		for at := range l.count {
			// Where there are too many, the row holds of none of them.
			if l.count > l.most || !l.right(at) {
				return thing{l.word, at}, true
			}
		}
	}
	return thing{}, false
}

// thingsOf are a configuration's things in their order, but for those that may be any.
func thingsOf(c api.Config) []things {
	return []things{
		one(wordAs, c.AS > 0),
		one(wordId, c.Id > 0),
		one(wordAddr, len(c.Addr) == addrSize),
		each(wordMember, api.MaxItems, c.Members, func(m uint32, ahead []uint32) bool { return c.Confed > 0 && mayMember(m, ahead) }),
		one(wordLabels, api.MinLabel <= c.Low && c.Low <= c.High && c.High <= api.MaxLabel),
		each(wordVrf, api.MaxVrfs, c.Vrfs, mayVrf),
		each(wordPeer, api.MaxPeers, c.Peers, func(p api.Peer, ahead []api.Peer) bool { return mayPeer(p, ahead) && fits(p, c) }),
		each(wordStatic, api.MaxItems, c.Statics, func(s api.Static, ahead []api.Static) bool { return mayStatic(s, ahead) && hasVrf(c, s.Vrf) }),
		each(wordSet, api.MaxLists, c.Sets, maySet),
		each(wordPolicy, api.MaxLists, c.Rules, func(p api.Policy, ahead []api.Policy) bool { return mayRule(p, ahead, c.Sets) }),
	}
}

// one is a thing that each configuration has once.
func one(word string, right bool) things {
	return things{word, 1, 1, func(int) bool { return right }}
}

// each are the things of a list, each judged by itself and those ahead of it.
func each[T any](word string, most int, l []T, may func(x T, ahead []T) bool) things {
	return things{word, len(l), most, func(at int) bool { return may(l[at], l[:at]) }}
}

func mayMember(m uint32, ahead []uint32) bool {
	return m > 0 && (len(ahead) == 0 || ahead[len(ahead)-1] < m)
}

func mayVrf(v api.Vrf, ahead []api.Vrf) bool {
	taken := func(o api.Vrf) bool { return o.Name == v.Name || o.RD == v.RD }
	return isName(v.Name) && v.RD > 0 && mayTargets(v.Import) && mayTargets(v.Export) && !slices.ContainsFunc(ahead, taken)
}

// mayTargets tells whether a VRF may have these as its import or export targets.
func mayTargets(l []uint64) bool {
	return len(l) <= api.MaxItems && rising(l) && all(l, comm.IsTarget)
}

// mayPeer tells whether a peer may be behind those ahead, whatever else the configuration has.
func mayPeer(p api.Peer, ahead []api.Peer) bool {
	taken := func(o api.Peer) bool { return o.Name == p.Name }
	return isName(p.Name) && !slices.ContainsFunc(ahead, taken) && mayWho(p, ahead) && p.AS > 0 && mayNumbers(p) && mayFams(p.Fams)
}

// mayWho tells whether it may be known by its address, or by its range.
func mayWho(p api.Peer, ahead []api.Peer) bool {
	if p.Addr == "" {
		return isPlain(p.Range) && p.Passive
	}
	taken := func(o api.Peer) bool { return o.Addr == p.Addr }
	return isAddr(p.Addr) && p.Range == api.Prefix{} && !slices.ContainsFunc(ahead, taken)
}

func mayNumbers(p api.Peer) bool {
	return (p.Hold == 0 || within(p.Hold, minHold, api.MaxHold)) && within(p.Retry, 1, maxRetry) && within(p.Mrai, 0, maxMrai) &&
		within(p.Send, 1, api.MaxAdd) && within(p.Most, 0, api.MaxPaths) && within(p.Time, 0, maxTime) && (p.GR || p.Time == 0)
}

func mayFams(l []int) bool {
	return len(l) > 0 && all(l, func(fam int) bool { return prim.Size(fam) > 0 }) && rising(l)
}

// fits tells whether what a peer says of the rest of its configuration is so.
func fits(p api.Peer, c api.Config) bool {
	return hasRule(c, p.In) && hasRule(c, p.Out) && hasVrf(c, p.Vrf) && mayClient(p, c) && mayConfed(p, c) && mayTable(p, c)
}

func mayClient(p api.Peer, c api.Config) bool { return !p.Client || p.AS == c.AS }

func mayConfed(p api.Peer, c api.Config) bool {
	return !p.Confed || c.Confed > 0 && p.AS != c.AS && slices.Contains(c.Members, p.AS)
}

// mayTable tells whether the table that a peer names, if there is one, may be its own.
func mayTable(p api.Peer, c api.Config) bool {
	return p.Vrf == "" || all(p.Fams, isPlainFam) && p.AS != c.AS && !p.Confed
}

// mayStatic tells whether a static may be behind those ahead, whatever VRFs there are.
func mayStatic(s api.Static, ahead []api.Static) bool {
	taken := func(o api.Static) bool { return o.Vrf == s.Vrf && o.Prefix == s.Prefix }
	return isPlain(s.Prefix) && len(s.Next) == len(s.Prefix.Addr) && !slices.ContainsFunc(ahead, taken)
}

func maySet(s api.Set, ahead []api.Set) bool {
	taken := func(o api.Set) bool { return o.Name == s.Name }
	return sets.Check(s) == api.OK && !slices.ContainsFunc(ahead, taken)
}

func mayRule(p api.Policy, ahead []api.Policy, with []api.Set) bool {
	taken := func(o api.Policy) bool { return o.Name == p.Name }
	return polc.Check(p, with) == api.OK && !slices.ContainsFunc(ahead, taken)
}

// hasVrf tells whether a VRF has that name, or none is named.
func hasVrf(c api.Config, name string) bool {
	return name == "" || slices.ContainsFunc(c.Vrfs, func(v api.Vrf) bool { return v.Name == name })
}

// hasRule tells whether a rule has that name, or none is named.
func hasRule(c api.Config, name string) bool {
	return name == "" || slices.ContainsFunc(c.Rules, func(p api.Policy) bool { return p.Name == name })
}

// isName tells whether the text is a name.
func isName(s string) bool {
	// A set that holds nothing may be just if its name is one.
	return sets.Check(api.Set{Name: s, Kind: api.SetComm}) == api.OK
}

// isAddr tells whether the bytes are those of an address.
func isAddr(b string) bool {
	_, err := prim.AddrText(b)
	return err == api.OK
}

// isPlain tells whether the prefix may be, and is one without labels and distinguishers.
func isPlain(p api.Prefix) bool { return isPlainFam(p.Fam) && prim.Check(p) == api.OK }

func isPlainFam(fam int) bool { return fam == api.V4 || fam == api.V6 }

func within(n, low, high int) bool { return low <= n && n <= high }

// rising tells whether each number is above the one ahead of it.
func rising[T int | uint64](l []T) bool {
	for i := 1; i < len(l); i++ {
		if l[i-1] >= l[i] {
			return false
		}
	}
	return true
}

// all tells whether each one of a list is so.
func all[T any](l []T, so func(T) bool) bool {
	return !slices.ContainsFunc(l, func(x T) bool { return !so(x) })
}
