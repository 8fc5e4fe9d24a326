package differ_test

import (
	"fmt"
	"reflect"
	"sort"
	"strconv"

	"herald/api"
	"herald/conf"
)

// The model goes through all names and fields, and holds things against one another by what is written of them.

// written writes all that a value holds; an empty list is written as one that is nil.
func written(v reflect.Value) string {
	switch v.Kind() {
	case reflect.Struct:
		s := "{"
		for i := range v.NumField() {
			s += written(v.Field(i)) + ";"
		}
		return s + "}"
	case reflect.Slice:
		s := "[" + strconv.Itoa(v.Len()) + ":"
		for i := range v.Len() {
			s += written(v.Index(i)) + ","
		}
		return s + "]"
	case reflect.String:
		return strconv.Quote(v.String())
	}
	return fmt.Sprint(v.Interface())
}

func write(x any) string { return written(reflect.ValueOf(x)) }

// softFields are named in the chapter.
var softFields = map[string]bool{"In": true, "Out": true, "SelfNext": true}

func modelPeer(a, b api.Peer) int {
	v, w := reflect.ValueOf(a), reflect.ValueOf(b)
	n := 0
	for i := range v.NumField() {
		if written(v.Field(i)) == written(w.Field(i)) {
			continue
		}
		if !softFields[v.Type().Field(i).Name] {
			return 2
		}
		n = 1
	}
	return n
}

// modelMeaning writes what a policy of that name means; "" where there is none.
func modelMeaning(c api.Config, name string) string {
	for _, p := range c.Rules {
		if p.Name != name {
			continue
		}
		s := write(p.Else) + write(p.Terms)
		for _, n := range modelNamed(p) {
			s += " " + strconv.Quote(n) + modelSet(c, n)
		}
		return s
	}
	return ""
}

// modelNamed are the sets that a policy names.
func modelNamed(p api.Policy) []string {
	var l []string
	for _, t := range p.Terms {
		for _, c := range t.Conds {
			switch c.Kind {
			case api.IfPrefix, api.IfComm, api.IfPath:
				l = append(l, c.Name)
			}
		}
		for _, a := range t.Actions {
			if a.Kind == api.DoDel {
				l = append(l, a.Name)
			}
		}
	}
	return l
}

func modelSet(c api.Config, name string) string {
	for _, s := range c.Sets {
		if s.Name == name {
			return write(s)
		}
	}
	return "none"
}

func modelPolicies(a, b api.Config) []string {
	differs := map[string]bool{}
	for _, c := range []api.Config{a, b} {
		for _, p := range c.Rules {
			if modelMeaning(a, p.Name) != modelMeaning(b, p.Name) {
				differs[p.Name] = true
			}
		}
	}
	return rising(differs)
}

func rising(m map[string]bool) []string {
	var l []string
	for n := range m {
		l = append(l, n)
	}
	sort.Strings(l)
	return l
}

// modelWhole writes the fields of the whole.
func modelWhole(c api.Config) string {
	return write([]uint32{c.AS, c.Id, c.Confed, c.Cluster, c.Low, c.High}) + write(c.Members) + write(c.Addr)
}

func modelPlan(a, b api.Config) (api.Plan, api.Errno) {
	if conf.Check(a) != api.OK || conf.Check(b) != api.OK {
		return api.Plan{}, api.ErrConf
	}
	if modelWhole(a) != modelWhole(b) {
		return api.Plan{All: true}, api.OK
	}
	turned := map[string]bool{}
	for _, n := range modelPolicies(a, b) {
		turned[n] = true
	}
	reset, soft, added, removed := map[string]bool{}, map[string]bool{}, map[string]bool{}, map[string]bool{}
	for _, p := range a.Peers {
		q, is := named(b, p.Name)
		switch n := modelPeer(p, q); {
		case !is:
			removed[p.Name] = true
		case n == 2:
			reset[p.Name] = true
		case n == 1 || turned[q.In] || turned[q.Out]:
			soft[p.Name] = true
		}
	}
	for _, p := range b.Peers {
		if _, is := named(a, p.Name); !is {
			added[p.Name] = true
		}
	}
	return api.Plan{Reset: rising(reset), Soft: rising(soft), Added: rising(added), Removed: rising(removed), Vrfs: write(a.Vrfs) != write(b.Vrfs), Statics: write(a.Statics) != write(b.Statics)}, api.OK
}

func named(c api.Config, name string) (api.Peer, bool) {
	for _, p := range c.Peers {
		if p.Name == name {
			return p, true
		}
	}
	return api.Peer{}, false
}
