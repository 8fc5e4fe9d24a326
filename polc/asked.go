package polc

import (
	"herald/api"
	"herald/sets"
)

// ask is what a condition or an action asks for: a set of that name and of that kind.
type ask struct {
	name string
	kind int
}

// asked are the sets that a policy asks, as often as it asks them.
func asked(p api.Policy) []ask {
	var l []ask
	add := func(name string, kind int) {
		if kind != 0 {
			l = append(l, ask{name, kind})
		}
	}
	for _, t := range p.Terms {
		for _, c := range t.Conds {
			add(c.Name, condAsks(c))
		}
		for _, a := range t.Actions {
			add(a.Name, actionAsks(a))
		}
	}
	return l
}

// condAsks is the kind of the set that a condition asks; 0, if it asks none.
func condAsks(c api.Cond) int {
	switch c.Kind {
	case api.IfPrefix:
		return api.SetPrefix
	case api.IfComm:
		return api.SetComm
	case api.IfPath:
		return api.SetPath
	}
	return 0
}

// actionAsks is the kind of the set that an action asks; 0, if it asks none.
func actionAsks(a api.Action) int {
	if a.Kind == api.DoDel {
		return api.SetComm
	}
	return 0
}

// kindsOf answers the kinds of sets by their names; false, if one may not be, or two have one name.
func kindsOf(l []api.Set) (map[string]int, bool) {
	kinds := make(map[string]int, len(l))
	for _, s := range l {
		if sets.Check(s) != api.OK {
			return nil, false
		}
		kinds[s.Name] = s.Kind
	}
	return kinds, len(kinds) == len(l)
}

// pick answers the sets that are asked, in the order in which they stand in l, each with lists of its own.
func pick(l []api.Set, asks []ask) []api.Set {
	names := make(map[string]struct{}, len(asks))
	for _, a := range asks {
		names[a.name] = struct{}{}
	}
	var picked []api.Set
	for i, s := range l {
		if _, is := names[s.Name]; is {
			// It is the first one from its own place on, and what Find answers shares nothing with it.
			own, _ := sets.Find(l[i:], s.Name)
			picked = append(picked, own)
		}
	}
	return picked
}
