package differ_test

import (
	"fmt"
	"reflect"
	"slices"
	"testing"

	"herald/api"
	"herald/differ"
)

// roomy is a copy of a value that shares nothing with it; behind the end of each of its lists there is room, in which a mark stands.
func roomy[T any](x T) T {
	v := reflect.New(reflect.TypeFor[T]()).Elem()
	v.Set(copied(reflect.ValueOf(x), 2))
	return v.Interface().(T)
}

// clone is a copy without that room.
func clone[T any](x T) T { return copied(reflect.ValueOf(x), 0).Interface().(T) }

func copied(v reflect.Value, room int) reflect.Value {
	to := reflect.New(v.Type()).Elem()
	switch v.Kind() {
	case reflect.Struct:
		for i := range v.NumField() {
			to.Field(i).Set(copied(v.Field(i), room))
		}
	case reflect.Slice:
		if v.IsNil() {
			return to
		}
		l := reflect.MakeSlice(v.Type(), v.Len()+room, v.Len()+room)
		for i := range v.Len() {
			l.Index(i).Set(copied(v.Index(i), room))
		}
		for i := range room {
			mark(l.Index(v.Len() + i))
		}
		to.Set(l.Slice(0, v.Len()))
	default:
		to.Set(v)
	}
	return to
}

// mark puts something into a value that nothing else has.
func mark(v reflect.Value) {
	switch v.Kind() {
	case reflect.Struct:
		for i := range v.NumField() {
			mark(v.Field(i))
		}
	case reflect.Slice:
		v.Set(reflect.MakeSlice(v.Type(), 1, 1))
		mark(v.Index(0))
	case reflect.String:
		v.SetString("mark")
	case reflect.Bool:
		v.SetBool(true)
	case reflect.Int:
		v.SetInt(77)
	default:
		v.SetUint(77)
	}
}

// spoil changes all that the lists of a value hold, and the room behind their ends.
func spoil(v reflect.Value) {
	switch v.Kind() {
	case reflect.Struct:
		for i := range v.NumField() {
			spoil(v.Field(i))
		}
	case reflect.Slice:
		all := v.Slice(0, v.Cap())
		for i := range all.Len() {
			spoil(all.Index(i))
			mark(all.Index(i))
		}
	}
}

// alike tells whether two values are the same, an empty list being as one that is nil; with room what is behind the lists' ends counts, too.
func alike(a, b reflect.Value, room bool) bool {
	switch a.Kind() {
	case reflect.Struct:
		for i := range a.NumField() {
			if !alike(a.Field(i), b.Field(i), room) {
				return false
			}
		}
		return true
	case reflect.Slice:
		if a.Len() != b.Len() || room && a.Cap() != b.Cap() {
			return false
		}
		if room {
			a, b = a.Slice(0, a.Cap()), b.Slice(0, b.Cap())
		}
		for i := range a.Len() {
			if !alike(a.Index(i), b.Index(i), room) {
				return false
			}
		}
		return true
	}
	return a.Interface() == b.Interface()
}

func same[T any](a, b T) bool { return alike(reflect.ValueOf(a), reflect.ValueOf(b), false) }

// wantKept looks whether a value, and the room behind its lists, is as roomy made it.
func wantKept[T any](t *testing.T, what string, is, was T) {
	t.Helper()
	if !alike(reflect.ValueOf(is), reflect.ValueOf(roomy(was)), true) {
		t.Errorf("%s: what was handed in is changed: %s", what, short(is))
	}
}

// memory tells where each list of a value lies, with the room behind its end.
func memory(v reflect.Value) [][2]uintptr {
	var l [][2]uintptr
	switch v.Kind() {
	case reflect.Struct:
		for i := range v.NumField() {
			l = append(l, memory(v.Field(i))...)
		}
	case reflect.Slice:
		if size := uintptr(v.Cap()) * v.Type().Elem().Size(); size > 0 {
			l = append(l, [2]uintptr{v.Pointer(), v.Pointer() + size})
		}
		for i := range v.Len() {
			l = append(l, memory(v.Index(i))...)
		}
	}
	return l
}

// wantApart looks whether no two lists share memory, in one of the values or in two.
func wantApart(t *testing.T, what string, values ...any) {
	t.Helper()
	var l [][2]uintptr
	for _, x := range values {
		l = append(l, memory(reflect.ValueOf(x))...)
	}
	for i, a := range l {
		for _, b := range l[:i] {
			if a[0] < b[1] && b[0] < a[1] {
				t.Errorf("%s: two lists share memory", what)
				return
			}
		}
	}
}

func short(x any) string { return fmt.Sprintf("%.1200q", fmt.Sprintf("%+v", x)) }

// edit is a copy of a configuration, changed.
func edit(c api.Config, change func(c *api.Config)) api.Config {
	c = clone(c)
	change(&c)
	return c
}

// wantPeer asks of two peers both ways, with room behind their lists, and looks whether they stay as they were.
func wantPeer(t *testing.T, a, b api.Peer, want int) {
	t.Helper()
	if n := modelPeer(a, b); n != want {
		t.Errorf("the model says %d, want %d of %s and %s", n, want, short(a), short(b))
	}
	x, y := roomy(a), roomy(b)
	if n := differ.Peer(x, y); n != want {
		t.Errorf("Peer: %d, want %d of %s and %s", n, want, short(a), short(b))
	}
	if n := differ.Peer(y, x); n != want {
		t.Errorf("Peer, turned about: %d, want %d of %s and %s", n, want, short(a), short(b))
	}
	wantKept(t, "Peer", x, a)
	wantKept(t, "Peer", y, b)
}

// wantPolicies asks of two configurations both ways; what a first call answers is spoiled ahead of looking at what the next one does.
func wantPolicies(t *testing.T, a, b api.Config, want ...string) {
	t.Helper()
	if l := modelPolicies(a, b); !slices.Equal(l, want) {
		t.Errorf("the model says %q, want %q of %s and %s", l, want, short(a), short(b))
	}
	x, y := roomy(a), roomy(b)
	l, again := differ.Policies(x, y), differ.Policies(x, y)
	if !slices.Equal(l, want) {
		t.Errorf("Policies: %q, want %q of %s and %s", l, want, short(a), short(b))
	}
	wantApart(t, "Policies", l, again)
	spoil(reflect.ValueOf(l))
	if back := differ.Policies(y, x); !slices.Equal(again, want) || !slices.Equal(back, want) {
		t.Errorf("Policies, again and turned about: %q, %q, want %q of %s and %s", again, back, want, short(a), short(b))
	}
	wantKept(t, "Policies", x, a)
	wantKept(t, "Policies", y, b)
}

// wantPlan asks what is to be done from a to b, and back, with what follows of it.
func wantPlan(t *testing.T, a, b api.Config, want api.Plan, wantErr api.Errno) {
	t.Helper()
	x, y := roomy(a), roomy(b)
	p, err := differ.Plan(x, y)
	again, _ := differ.Plan(x, y)
	if err != wantErr || !same(p, want) {
		t.Errorf("Plan: %+v, %d, want %+v, %d of %s to %s", p, err, want, wantErr, short(a), short(b))
	}
	wantApart(t, "Plan", p, again)
	spoil(reflect.ValueOf(p))
	if !same(again, want) {
		t.Errorf("Plan: two answers share memory: %+v", again)
	}
	back, err := differ.Plan(y, x)
	turned := want
	turned.Added, turned.Removed = want.Removed, want.Added
	if err != wantErr || !same(back, turned) {
		t.Errorf("Plan back: %+v, %d, want %+v, %d of %s to %s", back, err, turned, wantErr, short(b), short(a))
	}
	wantKept(t, "Plan", x, a)
	wantKept(t, "Plan", y, b)
	if wantErr == api.OK {
		wantLists(t, a, b, again)
	}
}

// wantLists looks whether lists rise, no peer is in two of them, and those in none are alike with all that they name.
func wantLists(t *testing.T, a, b api.Config, p api.Plan) {
	t.Helper()
	in := map[string]int{}
	for _, l := range [][]string{p.Reset, p.Soft, p.Added, p.Removed} {
		if !slices.IsSorted(l) {
			t.Errorf("Plan: %q does not rise", l)
		}
		for _, n := range l {
			in[n]++
		}
	}
	for n, times := range in {
		if times != 1 {
			t.Errorf("Plan: %q is told %d times in %+v", n, times, p)
		}
	}
	if p.All {
		return
	}
	for _, q := range slices.Concat(a.Peers, b.Peers) {
		if in[q.Name] > 0 {
			continue
		}
		x, inA := named(a, q.Name)
		y, inB := named(b, q.Name)
		if !inA || !inB || write(x) != write(y) || modelMeaning(a, q.In) != modelMeaning(b, q.In) || modelMeaning(a, q.Out) != modelMeaning(b, q.Out) {
			t.Errorf("Plan: %q is in no list, though it is not alike in %s and %s", q.Name, short(a), short(b))
		}
	}
}

// wantPlanAsModel asks the model what to want.
func wantPlanAsModel(t *testing.T, a, b api.Config) (api.Plan, api.Errno) {
	t.Helper()
	p, err := modelPlan(a, b)
	wantPlan(t, a, b, p, err)
	return p, err
}
