package polvm

import (
	"herald/api"
	"herald/aspath"
	"herald/sets"
)

// shelf holds sets by their names, so that asking for one does not go through all of them.
type shelf map[string]api.Set

// shelve answers the sets by their names; false, if they may not be together.
func shelve(l []api.Set) (shelf, bool) {
	k := make(shelf, len(l))
	for _, s := range l {
		if sets.Check(s) != api.OK {
			return nil, false
		}
		k[s.Name] = s
	}
	return k, len(k) == len(l)
}

// answersCond tells whether the set is there that a condition asks, if it asks one.
func (k shelf) answersCond(c api.Cond) bool {
	switch c.Kind {
	case api.IfPrefix:
		return k.has(c.Name, api.SetPrefix)
	case api.IfComm:
		return k.has(c.Name, api.SetComm)
	case api.IfPath:
		return k.has(c.Name, api.SetPath)
	}
	return true
}

// answersAction tells whether the set is there that an action asks, if it asks one.
func (k shelf) answersAction(a api.Action) bool {
	return a.Kind != api.DoDel || k.has(a.Name, api.SetComm)
}

// has tells whether a set of that name and of that kind is there.
func (k shelf) has(name string, kind int) bool { return k[name].Kind == kind }

// holds tells whether a condition holds for a route; the set that it asks is there.
func (k shelf) holds(c api.Cond, r api.Route) bool { return k.says(c, r) != c.Not }

// says tells whether a condition would hold without its Not.
func (k shelf) says(c api.Cond, r api.Route) bool {
	switch c.Kind {
	case api.IfPrefix:
		return sets.Prefix(k[c.Name], r.Prefix)
	case api.IfComm:
		return sets.Comm(k[c.Name], r.Attrs.Comms)
	case api.IfPath:
		return sets.Path(k[c.Name], r.Attrs.Path)
	case api.IfPeer:
		return r.Peer == c.Name
	case api.IfOrigin:
		return r.Attrs.Origin == c.N
	case api.IfLength:
		return aspath.Length(r.Attrs.Path) <= c.N
	}
	// Of those that may be, IfFam alone is left.
	return r.Prefix.Fam == c.N
}
