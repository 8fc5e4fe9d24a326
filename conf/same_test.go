package conf_test

import (
	"reflect"
	"strings"
	"testing"

	"herald/api"
	"herald/conf"
)

// edits tells copies of a configuration that differ from it in one thing each: each number, text and bool is put at each of some others; of each list each entry is left out, doubled, or changed about with the next one, and one is put behind.
func edits(c api.Config, tell func(what string, c api.Config)) {
	var each func(what string, find func(v reflect.Value) reflect.Value)
	each = func(what string, find func(v reflect.Value) reflect.Value) {
		here := find(reflect.ValueOf(&c).Elem())
		change := func(how string, change func(v reflect.Value)) {
			d := clone(c)
			change(find(reflect.ValueOf(&d).Elem()))
			tell(what+" "+how, d)
		}
		switch here.Kind() {
		case reflect.Struct:
			for i := range here.NumField() {
				each(what+"."+here.Type().Field(i).Name, func(v reflect.Value) reflect.Value { return find(v).Field(i) })
			}
		case reflect.Slice:
			listEdits(here, change)
			for i := range here.Len() {
				each(what+"[]", func(v reflect.Value) reflect.Value { return find(v).Index(i) })
			}
		default:
			leafEdits(here, change)
		}
	}
	each("", func(v reflect.Value) reflect.Value { return v })
}

func listEdits(here reflect.Value, change func(how string, change func(v reflect.Value))) {
	change("emptied", func(v reflect.Value) { v.Set(reflect.MakeSlice(v.Type(), 0, 0)) })
	change("none", func(v reflect.Value) { v.SetZero() })
	change("more", func(v reflect.Value) { v.Set(reflect.Append(v, reflect.New(v.Type().Elem()).Elem())) })
	for i := range here.Len() {
		change("without", func(v reflect.Value) {
			v.Set(reflect.AppendSlice(v.Slice3(0, i, i), v.Slice(i+1, v.Len())))
		})
		change("doubled", func(v reflect.Value) {
			v.Set(reflect.AppendSlice(v.Slice3(0, i+1, i+1), v.Slice(i, v.Len())))
		})
		if i > 0 {
			change("turned", func(v reflect.Value) { reflect.Swapper(v.Interface())(i-1, i) })
		}
	}
}

func leafEdits(here reflect.Value, change func(how string, change func(v reflect.Value))) {
	switch here.Kind() {
	case reflect.Bool:
		change("turned", func(v reflect.Value) { v.SetBool(!v.Bool()) })
	case reflect.String:
		for _, s := range []string{"", "a", "b", "p", "v", "y", "A", "a b", "-", host(2), host(3), far, here.String() + "a", here.String() + "\x00", strings.TrimSuffix(here.String(), "p")} {
			change("put", func(v reflect.Value) { v.SetString(s) })
		}
	case reflect.Int:
		for _, n := range append(edges, int(here.Int())+1, int(here.Int())-1) {
			change("put", func(v reflect.Value) { v.SetInt(int64(n)) })
		}
	case reflect.Uint32:
		for _, n := range append(edges32, uint32(here.Uint())+1, uint32(here.Uint())-1) {
			change("put", func(v reflect.Value) { v.SetUint(uint64(n)) })
		}
	default:
		for _, n := range append(edges64, here.Uint()+1, here.Uint()-1) {
			change("put", func(v reflect.Value) { v.SetUint(n) })
		}
	}
}

// What differs in one field, in whichever, is not the same; it is right just if the model says so, and comes back from its text then.
func TestP18_1Edits(t *testing.T) {
	c := full()
	fields := map[string]int{}
	all, right, expressible, unlike := 0, 0, 0, 0
	edits(c, func(what string, d api.Config) {
		all++
		alike := same(c, d)
		if !alike {
			fields[strings.Fields(what)[0]]++
			unlike++
		}
		if conf.Same(c, d) != alike || conf.Same(d, c) != alike {
			t.Errorf("%s: Same is %t", what, !alike)
		}
		if all%20 == 0 {
			wantSame(t, c, d, alike)
		}
		if len(wrongThings(d)) == 0 {
			right++
		}
		if wantAsModel(t, d) {
			expressible++
		}
	})
	if len(fields) < 60 || unlike < 5000 || right < 500 || expressible < 2000 {
		t.Errorf("%d fields, %d unlike, %d right, %d with a text", len(fields), unlike, right, expressible)
	}
	// Each field of each type is among them.
	for _, x := range []struct {
		name string
		of   any
	}{{"", c}, {".Peers[]", c.Peers[0]}, {".Peers[].Range", ten}, {".Vrfs[]", c.Vrfs[0]}, {".Statics[]", c.Statics[0]}, {".Sets[]", c.Sets[0]}, {".Sets[].Items[]", c.Sets[0].Items[0]}, {".Rules[]", c.Rules[0]}, {".Rules[].Terms[]", api.Term{}}, {".Rules[].Terms[].Conds[]", api.Cond{}}, {".Rules[].Terms[].Actions[]", api.Action{}}, {".Sets[].Paths[][]", api.Atom{}}} {
		for i := range reflect.TypeOf(x.of).NumField() {
			name := x.name + "." + reflect.TypeOf(x.of).Field(i).Name
			if kind := reflect.TypeOf(x.of).Field(i).Type.Kind(); kind != reflect.Struct && fields[name] == 0 {
				t.Errorf("%s is not among the fields", name)
			}
		}
	}
}

// wantSame asks for both ways, with room behind the lists, and looks whether all stays as it was.
func wantSame(t *testing.T, a, b api.Config, want bool) {
	t.Helper()
	x, y := roomy(a), roomy(b)
	if conf.Same(x, y) != want || conf.Same(y, x) != want {
		t.Errorf("Same: %t of %s and %s", !want, short(a), short(b))
	}
	wantKept(t, "Same", x, a)
	wantKept(t, "Same", y, b)
}

func TestP18_1Same(t *testing.T) {
	// Of any: those that may not be, too.
	marked := api.Config{}
	mark(reflect.ValueOf(&marked).Elem())
	odd := full()
	for i := range odd.Peers {
		odd.Peers[i].Fams, odd.Peers[i].Hold, odd.Peers[i].Name = []int{-1, -1, 7}, -9, "A B"
	}
	l := []api.Config{{}, small(), full(), marked, odd}
	for i, a := range l {
		for k, b := range l {
			wantSame(t, a, b, i == k)
		}
	}
	for _, c := range []api.Config{marked, odd} {
		edits(c, func(what string, d api.Config) {
			if conf.Same(c, d) != same(c, d) || conf.Same(d, c) != same(c, d) {
				t.Errorf("%s: Same is %t", what, conf.Same(c, d))
			}
		})
	}
	// An empty list is as one that is nil, in all depths.
	empty, none := full(), full()
	hollow(reflect.ValueOf(&empty).Elem(), true)
	hollow(reflect.ValueOf(&none).Elem(), false)
	wantSame(t, empty, none, true)
	wantSame(t, empty, full(), false)
	a, b := api.Config{}, api.Config{Members: []uint32{}, Peers: []api.Peer{}, Vrfs: []api.Vrf{}, Statics: []api.Static{}, Sets: []api.Set{}, Rules: []api.Policy{}}
	wantSame(t, a, b, true)
}

// hollow empties all lists that hold no lists.
func hollow(v reflect.Value, made bool) {
	switch v.Kind() {
	case reflect.Struct:
		for i := range v.NumField() {
			hollow(v.Field(i), made)
		}
	case reflect.Slice:
		kind := v.Type().Elem().Kind()
		if kind == reflect.Struct && v.Type().Elem().NumField() > 2 || kind == reflect.Slice {
			for i := range v.Len() {
				hollow(v.Index(i), made)
			}
			return
		}
		v.SetZero()
		if made {
			v.Set(reflect.MakeSlice(v.Type(), 0, 3))
		}
	}
}
