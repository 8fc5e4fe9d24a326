package differ

import (
	"slices"

	"herald/api"
	"herald/conf"
	"herald/polc"
)

// How two things of one name differ; the first three are what Peer answers.
const (
	alike = iota
	soft
	hard
	gone // only the first list has one
	come // only the second list has one
)

// differing tells by their names the things of two lists that are not alike, and how they differ. Of several of one name the first one counts.
func differing[T any](a, b []T, name func(T) string, how func(x, y T) int) map[string]int {
	ofA, ofB := firsts(a, name), firsts(b, name)
	told := map[string]int{}
	for n, x := range ofA {
		if y, both := ofB[n]; !both {
			told[n] = gone
		} else if h := how(x, y); h != alike {
			told[n] = h
		}
	}
	for n := range ofB {
		if _, both := ofA[n]; !both {
			told[n] = come
		}
	}
	return told
}

// firsts has the first one of each name.
func firsts[T any](l []T, name func(T) string) map[string]T {
	m := make(map[string]T, len(l))
	for _, x := range l {
		n := name(x)
		if _, is := m[n]; !is {
			m[n] = x
		}
	}
	return m
}

// namesOf are the names that differ in that way, rising.
func namesOf(told map[string]int, how int) []string {
	var l []string
	for name, h := range told {
		if h == how {
			l = append(l, name)
		}
	}
	slices.Sort(l)
	return l
}

// peers tells how the peers of two configurations differ, where the whole does not.
func peers(a, b api.Config) map[string]int {
	meant := policies(a, b)
	name := func(p api.Peer) string { return p.Name }
	return differing(a.Peers, b.Peers, name, func(x, y api.Peer) int {
		n := Peer(x, y)
		// Alike in all that it has itself, it is asked anew where a policy that it names means something else.
		if n == alike && (meant[y.In] != alike || meant[y.Out] != alike) {
			return soft
		}
		return n
	})
}

// policies tells the rules whose meaning differs.
func policies(a, b api.Config) map[string]int {
	held := sets(a, b)
	name := func(p api.Policy) string { return p.Name }
	return differing(a.Rules, b.Rules, name, func(x, y api.Policy) int {
		// Where the two are the same, they name the same sets.
		if polc.Same(x, y) && !namesOne(x, held) {
			return alike
		}
		return hard
	})
}

// sets tells the sets that are unlike.
func sets(a, b api.Config) map[string]int {
	name := func(s api.Set) string { return s.Name }
	return differing(a.Sets, b.Sets, name, func(x, y api.Set) int {
		if sameSet(x, y) {
			return alike
		}
		return hard
	})
}

// namesOne tells whether a policy names one of those sets.
func namesOne(p api.Policy, held map[string]int) bool {
	unlike := func(name string) bool { return held[name] != alike }
	inCond := func(c api.Cond) bool { return condNames(c.Kind) && unlike(c.Name) }
	inAction := func(a api.Action) bool { return a.Kind == api.DoDel && unlike(a.Name) }
	return slices.ContainsFunc(p.Terms, func(t api.Term) bool {
		return slices.ContainsFunc(t.Conds, inCond) || slices.ContainsFunc(t.Actions, inAction)
	})
}

// condNames tells whether conditions of that kind name a set.
func condNames(kind int) bool {
	return kind == api.IfPrefix || kind == api.IfComm || kind == api.IfPath
}

// samePeer leaves it to conf what a peer's fields are.
func samePeer(a, b api.Peer) bool {
	return conf.Same(api.Config{Peers: []api.Peer{a}}, api.Config{Peers: []api.Peer{b}})
}

// sameSet leaves it to conf what a set's fields are.
func sameSet(a, b api.Set) bool {
	return conf.Same(api.Config{Sets: []api.Set{a}}, api.Config{Sets: []api.Set{b}})
}
