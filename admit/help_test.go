package admit_test

import (
	"fmt"
	"reflect"
	"testing"

	"herald/admit"
	"herald/api"
	"herald/prim"
)

// roomy is a copy of a value that shares nothing with it; behind the end of each of its lists there is room, in which a mark stands.
func roomy[T any](x T) T {
	v := reflect.New(reflect.TypeFor[T]()).Elem()
	v.Set(copied(reflect.ValueOf(x), 2))
	return v.Interface().(T)
}

// clone is a copy without that room.
func clone[T any](x T) T { return copied(reflect.ValueOf(x), 0).Interface().(T) }

func copied(v reflect.Value, room int) reflect.Value {
	to := reflect.New(v.Type()).Elem()
	switch v.Kind() {
	case reflect.Struct:
		for i := range v.NumField() {
			to.Field(i).Set(copied(v.Field(i), room))
		}
	case reflect.Slice:
		if v.IsNil() {
			return to
		}
		l := reflect.MakeSlice(v.Type(), v.Len()+room, v.Len()+room)
		for i := range v.Len() {
			l.Index(i).Set(copied(v.Index(i), room))
		}
		for i := range room {
			mark(l.Index(v.Len() + i))
		}
		to.Set(l.Slice(0, v.Len()))
	default:
		to.Set(v)
	}
	return to
}

// mark puts something into a value that nothing else has.
func mark(v reflect.Value) {
	switch v.Kind() {
	case reflect.Struct:
		for i := range v.NumField() {
			mark(v.Field(i))
		}
	case reflect.Slice:
		v.Set(reflect.MakeSlice(v.Type(), 1, 1))
		mark(v.Index(0))
	case reflect.String:
		v.SetString("mark")
	case reflect.Bool:
		v.SetBool(true)
	case reflect.Int:
		v.SetInt(77)
	default:
		v.SetUint(77)
	}
}

// spoil changes all that the lists of a value hold, and the room behind their ends.
func spoil(v reflect.Value) {
	switch v.Kind() {
	case reflect.Struct:
		for i := range v.NumField() {
			spoil(v.Field(i))
		}
	case reflect.Slice:
		all := v.Slice(0, v.Cap())
		for i := range all.Len() {
			spoil(all.Index(i))
			mark(all.Index(i))
		}
	}
}

// alike tells whether two values are the same, an empty list being as one that is nil; with room what is behind the lists' ends counts, too.
func alike(a, b reflect.Value, room bool) bool {
	switch a.Kind() {
	case reflect.Struct:
		for i := range a.NumField() {
			if !alike(a.Field(i), b.Field(i), room) {
				return false
			}
		}
		return true
	case reflect.Slice:
		if a.Len() != b.Len() || room && a.Cap() != b.Cap() {
			return false
		}
		if room {
			a, b = a.Slice(0, a.Cap()), b.Slice(0, b.Cap())
		}
		for i := range a.Len() {
			if !alike(a.Index(i), b.Index(i), room) {
				return false
			}
		}
		return true
	}
	return a.Interface() == b.Interface()
}

func same[T any](a, b T) bool { return alike(reflect.ValueOf(a), reflect.ValueOf(b), false) }

// wantKept looks whether a value, and the room behind its lists, is as roomy made it.
func wantKept[T any](t *testing.T, what string, is, was T) {
	t.Helper()
	if !alike(reflect.ValueOf(is), reflect.ValueOf(roomy(was)), true) {
		t.Errorf("%s: what was handed in is changed: %s", what, short(is))
	}
}

// memory tells where each list of a value lies, with the room behind its end.
func memory(v reflect.Value) [][2]uintptr {
	var l [][2]uintptr
	switch v.Kind() {
	case reflect.Struct:
		for i := range v.NumField() {
			l = append(l, memory(v.Field(i))...)
		}
	case reflect.Slice:
		if size := uintptr(v.Cap()) * v.Type().Elem().Size(); size > 0 {
			l = append(l, [2]uintptr{v.Pointer(), v.Pointer() + size})
		}
		for i := range v.Len() {
			l = append(l, memory(v.Index(i))...)
		}
	}
	return l
}

// wantApart looks whether no two lists share memory, in one of the values or in two.
func wantApart(t *testing.T, what string, values ...any) {
	t.Helper()
	var l [][2]uintptr
	for _, x := range values {
		l = append(l, memory(reflect.ValueOf(x))...)
	}
	for i, a := range l {
		for _, b := range l[:i] {
			if a[0] < b[1] && b[0] < a[1] {
				t.Errorf("%s: two lists share memory", what)
				return
			}
		}
	}
}

func short(x any) string { return fmt.Sprintf("%.1200q", fmt.Sprintf("%+v", x)) }

// addr reads an address' text.
func addr(text string) string {
	b, err := prim.Addr(text)
	if err != api.OK {
		panic("no address: " + text)
	}
	return b
}

// prefix reads a prefix's text; of an empty one it is the zero one.
func prefix(text string) api.Prefix {
	if text == "" {
		return api.Prefix{}
	}
	p, err := prim.Parse(text)
	if err != api.OK {
		panic("no prefix: " + text)
	}
	return p
}

// at is a neighbour that is named by its address.
func at(name, text string) api.Peer { return api.Peer{Name: name, Addr: addr(text)} }

// in is a neighbour that is told by a range.
func in(name, text string) api.Peer { return api.Peer{Name: name, Range: prefix(text)} }

// full is a neighbour with something in each of its fields.
func full(name, text string) api.Peer {
	return api.Peer{
		Name: name, Range: prefix(text), AS: 65001, Hold: 90, Retry: 30, Passive: true, Client: true, Confed: true,
		Fams: []int{api.V4, api.Vpn6, api.L4}, Send: 3, Take: true, Most: 1000, GR: true, Time: 120, Mrai: 5,
		In: "from", Out: "to", Vrf: "red", SelfNext: true,
	}
}

// wantFind looks for an address in a list, of which nothing may change; want is -1 where there is none.
func wantFind(t *testing.T, what string, l []api.Peer, address string, want int) {
	t.Helper()
	x := roomy(l)
	n, ok := admit.Find(x, address)
	wantKept(t, "Find", x, l)
	if ok != (want >= 0) || n != max(want, 0) {
		t.Errorf("%s: Find(%s, %q) = %d, %t, want %d", what, short(l), address, n, ok, want)
	}
}

// wantDynamic looks what comes of a neighbour's range; of an error nothing but it.
func wantDynamic(t *testing.T, what string, p api.Peer, address, name string, want api.Errno) {
	t.Helper()
	var all api.Peer
	if want == api.OK {
		all = clone(p)
		all.Name, all.Addr, all.Range = name, address, api.Prefix{}
	}
	x := roomy(p)
	got, err := admit.Dynamic(x, address)
	again, _ := admit.Dynamic(x, address)
	wantKept(t, "Dynamic", x, p)
	if err != want || !same(got, all) {
		t.Errorf("%s: Dynamic(%s, %q) = %s, %d, want %q, %d", what, short(p), address, short(got), err, name, want)
	}
	wantApart(t, "Dynamic", x, got, again)
	spoil(reflect.ValueOf(x))
	if !same(got, all) {
		t.Errorf("%s: Dynamic keeps what was handed in: %s", what, short(got))
	}
	spoil(reflect.ValueOf(got))
	if !same(again, all) {
		t.Errorf("%s: Dynamic keeps what was handed out: %s", what, short(again))
	}
}
