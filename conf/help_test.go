package conf_test

import (
	"errors"
	"fmt"
	"reflect"
	"strings"
	"testing"

	"herald/api"
	"herald/conf"
)

// roomy is a copy of a value that shares nothing with it; behind the end of each of its lists there is room, in which a mark stands.
func roomy[T any](x T) T {
	v := reflect.New(reflect.TypeFor[T]()).Elem()
	v.Set(copied(reflect.ValueOf(x), 2))
	return v.Interface().(T)
}

// clone is a copy without that room.
func clone[T any](x T) T { return copied(reflect.ValueOf(x), 0).Interface().(T) }

func copied(v reflect.Value, room int) reflect.Value {
	to := reflect.New(v.Type()).Elem()
	switch v.Kind() {
	case reflect.Struct:
		for i := range v.NumField() {
			to.Field(i).Set(copied(v.Field(i), room))
		}
	case reflect.Slice:
		if v.IsNil() {
			return to
		}
		l := reflect.MakeSlice(v.Type(), v.Len()+room, v.Len()+room)
		for i := range v.Len() {
			l.Index(i).Set(copied(v.Index(i), room))
		}
		for i := range room {
			mark(l.Index(v.Len() + i))
		}
		to.Set(l.Slice(0, v.Len()))
	default:
		to.Set(v)
	}
	return to
}

// mark puts something into a value that nothing else has.
func mark(v reflect.Value) {
	switch v.Kind() {
	case reflect.Struct:
		for i := range v.NumField() {
			mark(v.Field(i))
		}
	case reflect.Slice:
		v.Set(reflect.MakeSlice(v.Type(), 1, 1))
		mark(v.Index(0))
	case reflect.String:
		v.SetString("mark")
	case reflect.Bool:
		v.SetBool(true)
	case reflect.Int:
		v.SetInt(77)
	default:
		v.SetUint(77)
	}
}

// spoil changes all that the lists of a value hold, and the room behind their ends.
func spoil(v reflect.Value) {
	switch v.Kind() {
	case reflect.Struct:
		for i := range v.NumField() {
			spoil(v.Field(i))
		}
	case reflect.Slice:
		all := v.Slice(0, v.Cap())
		for i := range all.Len() {
			spoil(all.Index(i))
			mark(all.Index(i))
		}
	}
}

// alike tells whether two values are the same, an empty list being as one that is nil; with room what is behind the lists' ends counts, too.
func alike(a, b reflect.Value, room bool) bool {
	switch a.Kind() {
	case reflect.Struct:
		for i := range a.NumField() {
			if !alike(a.Field(i), b.Field(i), room) {
				return false
			}
		}
		return true
	case reflect.Slice:
		if a.Len() != b.Len() || room && a.Cap() != b.Cap() {
			return false
		}
		if room {
			a, b = a.Slice(0, a.Cap()), b.Slice(0, b.Cap())
		}
		for i := range a.Len() {
			if !alike(a.Index(i), b.Index(i), room) {
				return false
			}
		}
		return true
	}
	return a.Interface() == b.Interface()
}

func same[T any](a, b T) bool { return alike(reflect.ValueOf(a), reflect.ValueOf(b), false) }

// wantKept looks whether a value, and the room behind its lists, is as roomy made it.
func wantKept[T any](t *testing.T, what string, is, was T) {
	t.Helper()
	if !alike(reflect.ValueOf(is), reflect.ValueOf(roomy(was)), true) {
		t.Errorf("%s: what was handed in is changed: %s", what, short(is))
	}
}

// memory tells where each list of a value lies, with the room behind its end.
func memory(v reflect.Value) [][2]uintptr {
	var l [][2]uintptr
	switch v.Kind() {
	case reflect.Struct:
		for i := range v.NumField() {
			l = append(l, memory(v.Field(i))...)
		}
	case reflect.Slice:
		if size := uintptr(v.Cap()) * v.Type().Elem().Size(); size > 0 {
			l = append(l, [2]uintptr{v.Pointer(), v.Pointer() + size})
		}
		for i := range v.Len() {
			l = append(l, memory(v.Index(i))...)
		}
	}
	return l
}

// wantApart looks whether no two lists share memory, in one of the values or in two.
func wantApart(t *testing.T, what string, values ...any) {
	t.Helper()
	var l [][2]uintptr
	for _, x := range values {
		l = append(l, memory(reflect.ValueOf(x))...)
	}
	for i, a := range l {
		for _, b := range l[:i] {
			if a[0] < b[1] && b[0] < a[1] {
				t.Errorf("%s: two lists share memory", what)
				return
			}
		}
	}
}

func short(x any) string { return fmt.Sprintf("%.1200q", fmt.Sprintf("%+v", x)) }

// edit is a copy of a configuration, changed.
func edit(c api.Config, change func(c *api.Config)) api.Config {
	c = clone(c)
	change(&c)
	return c
}

// wantRight looks for all that holds of a configuration that may be: Check, its text, which is the model's, and what comes of it again.
func wantRight(t *testing.T, c api.Config) {
	t.Helper()
	if l := wrongThings(c); len(l) > 0 {
		t.Errorf("the model says that %+v is wrong of %s", l, short(c))
	}
	in := roomy(c)
	if err := conf.Check(in); err != api.OK {
		t.Errorf("Check: %d of %s", err, short(c))
	}
	text := modelText(c)
	s, err := conf.Print(in)
	wantKept(t, "Check and Print", in, c)
	if len(text) > 65536 {
		if err != api.ErrLong || s != "" {
			t.Errorf("Print of a text of %d bytes: %.40q, %d", len(text), s, err)
		}
		wantFault(t, text, api.ErrLong, 0)
		return
	}
	if err != api.OK || s != text {
		t.Errorf("Print: %q, %d, want %q", s, err, text)
	}
	wantRead(t, text, c)
	wantFault(t, text[:len(text)-1], api.ErrLine, strings.Count(text, "\n")-1)
}

// wantWrong looks for all that holds of one that may not be, with its first wrong thing; it tells whether there is a text of it that is right in form.
func wantWrong(t *testing.T, c api.Config, line string, at int) bool {
	t.Helper()
	first := thing{line, at}
	if l := wrongThings(c); len(l) == 0 || l[0] != first {
		t.Errorf("the model says %+v, want %+v of %s", l, first, short(c))
	}
	in := roomy(c)
	if err := conf.Check(in); err != api.ErrConf {
		t.Errorf("Check: %d, want ErrConf for %+v of %s", err, first, short(c))
	}
	if s, err := conf.Print(in); err != api.ErrConf || s != "" {
		t.Errorf("Print: %.100q, %d, want ErrConf for %+v of %s", s, err, first, short(c))
	}
	wantKept(t, "Check and Print", in, c)
	text := modelText(c)
	if back, _, is := modelForm(text); !is || !same(back, c) || len(text) > 65536 {
		return false
	}
	wantFault(t, text, api.ErrConf, modelLine(text, first))
	return true
}

// wantAsModel asks the model what to want of a configuration.
func wantAsModel(t *testing.T, c api.Config) bool {
	t.Helper()
	if l := wrongThings(c); len(l) > 0 {
		return wantWrong(t, c, l[0].line, l[0].at)
	}
	wantRight(t, c)
	return true
}

// wantRead reads a text twice: what the first call answers is spoiled ahead of looking at what the second one does.
func wantRead(t *testing.T, s string, want api.Config) {
	t.Helper()
	c, err := conf.Parse(s)
	again, _ := conf.Parse(s)
	if err != nil || !same(c, want) {
		t.Errorf("Parse(%.2000q): %v, %s, want %s", s, err, short(c), short(want))
		return
	}
	if !conf.Same(c, want) || !conf.Same(want, c) {
		t.Errorf("Parse(%.2000q): not the same", s)
	}
	if back, e := conf.Print(c); e != api.OK || back != s {
		t.Errorf("Print of what Parse takes: %q, %d, want %q", back, e, s)
	}
	wantApart(t, "Parse", c, again)
	spoil(reflect.ValueOf(c))
	if !same(again, want) {
		t.Errorf("Parse(%.2000q): two answers share memory", s)
	}
}

// wantFault looks for the fault, and for nothing beside it.
func wantFault(t *testing.T, s string, code api.Errno, at int) {
	t.Helper()
	c, err := conf.Parse(s)
	if !same(c, api.Config{}) {
		t.Errorf("Parse(%.2000q): %s beside %v", s, short(c), err)
	}
	var f *api.Fault
	if !errors.As(err, &f) || f == nil || f.Code != code || f.At != at {
		t.Errorf("Parse(%.2000q): %+v, want %d in line %d", s, f, code, at)
		return
	}
	for e := api.Errno(-1); e <= 12; e++ {
		if errors.Is(err, e) != (e == code) {
			t.Errorf("Parse(%.2000q): errors.Is(.., %d) is %v", s, e, errors.Is(err, e))
		}
	}
}

// wantTextAsModel asks the model what to want of a text; it tells whether that is a configuration's.
func wantTextAsModel(t *testing.T, s string) bool {
	t.Helper()
	c, f := modelParse(s)
	if f.Code != api.OK {
		wantFault(t, s, f.Code, f.At)
		return false
	}
	wantRead(t, s, c)
	return true
}
