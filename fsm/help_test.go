package fsm_test

import (
	"fmt"
	"reflect"
	"slices"
	"strings"
	"testing"

	"herald/api"
	"herald/fsm"
)

// roomy is a copy of a value that shares nothing with it; behind the end of each of its lists there is room, in which a mark stands.
func roomy[T any](x T) T {
	v := reflect.New(reflect.TypeFor[T]()).Elem()
	v.Set(copied(reflect.ValueOf(x), 2))
	return v.Interface().(T)
}

// clone is a copy without that room.
func clone[T any](x T) T { return copied(reflect.ValueOf(x), 0).Interface().(T) }

func copied(v reflect.Value, room int) reflect.Value {
	to := reflect.New(v.Type()).Elem()
	switch v.Kind() {
	case reflect.Struct:
		for i := range v.NumField() {
			to.Field(i).Set(copied(v.Field(i), room))
		}
	case reflect.Slice:
		if v.IsNil() {
			return to
		}
		l := reflect.MakeSlice(v.Type(), v.Len()+room, v.Len()+room)
		for i := range v.Len() {
			l.Index(i).Set(copied(v.Index(i), room))
		}
		for i := range room {
			mark(l.Index(v.Len() + i))
		}
		to.Set(l.Slice(0, v.Len()))
	default:
		to.Set(v)
	}
	return to
}

// mark puts something into a value that nothing else has.
func mark(v reflect.Value) {
	switch v.Kind() {
	case reflect.Struct:
		for i := range v.NumField() {
			mark(v.Field(i))
		}
	case reflect.Slice:
		v.Set(reflect.MakeSlice(v.Type(), 1, 1))
		mark(v.Index(0))
	case reflect.String:
		v.SetString("mark")
	case reflect.Bool:
		v.SetBool(true)
	case reflect.Int:
		v.SetInt(77)
	default:
		v.SetUint(77)
	}
}

// spoil changes all that the lists of a value hold, and the room behind their ends.
func spoil(v reflect.Value) {
	switch v.Kind() {
	case reflect.Struct:
		for i := range v.NumField() {
			spoil(v.Field(i))
		}
	case reflect.Slice:
		all := v.Slice(0, v.Cap())
		for i := range all.Len() {
			spoil(all.Index(i))
			mark(all.Index(i))
		}
	}
}

// alike tells whether two values are the same, an empty list being as one that is nil; with room what is behind the lists' ends counts, too.
func alike(a, b reflect.Value, room bool) bool {
	switch a.Kind() {
	case reflect.Struct:
		for i := range a.NumField() {
			if !alike(a.Field(i), b.Field(i), room) {
				return false
			}
		}
		return true
	case reflect.Slice:
		if a.Len() != b.Len() || room && a.Cap() != b.Cap() {
			return false
		}
		if room {
			a, b = a.Slice(0, a.Cap()), b.Slice(0, b.Cap())
		}
		for i := range a.Len() {
			if !alike(a.Index(i), b.Index(i), room) {
				return false
			}
		}
		return true
	}
	return a.Interface() == b.Interface()
}

func same[T any](a, b T) bool { return alike(reflect.ValueOf(a), reflect.ValueOf(b), false) }

// wantKept looks whether a value, and the room behind its lists, is as roomy made it.
func wantKept[T any](t *testing.T, what string, is, was T) {
	t.Helper()
	if !alike(reflect.ValueOf(is), reflect.ValueOf(roomy(was)), true) {
		t.Errorf("%s: what was handed in is changed: %s", what, short(is))
	}
}

// memory tells where each list of a value lies, with the room behind its end.
func memory(v reflect.Value) [][2]uintptr {
	var l [][2]uintptr
	switch v.Kind() {
	case reflect.Struct:
		for i := range v.NumField() {
			l = append(l, memory(v.Field(i))...)
		}
	case reflect.Slice:
		if size := uintptr(v.Cap()) * v.Type().Elem().Size(); size > 0 {
			l = append(l, [2]uintptr{v.Pointer(), v.Pointer() + size})
		}
		for i := range v.Len() {
			l = append(l, memory(v.Index(i))...)
		}
	}
	return l
}

// wantApart looks whether no two lists share memory, in one of the values or in two.
func wantApart(t *testing.T, what string, values ...any) {
	t.Helper()
	var l [][2]uintptr
	for _, x := range values {
		l = append(l, memory(reflect.ValueOf(x))...)
	}
	for i, a := range l {
		for _, b := range l[:i] {
			if a[0] < b[1] && b[0] < a[1] {
				t.Errorf("%s: two lists share memory", what)
				return
			}
		}
	}
}

func short(x any) string { return fmt.Sprintf("%.1200q", fmt.Sprintf("%+v", x)) }

// The words of acts: the place of a word is its number.
var (
	kindWords  = []string{"", "connect", "close", "open", "keep", "note", "arm", "cancel", "up", "down"}
	timerWords = []string{"", "retry", "hold", "send"}
	stateWords = []string{"none", "Idle", "Connect", "Active", "OpenSent", "OpenConfirm", "Established"}
	inputWords = []string{"", "Start", "Stop", "Connected", "Refused", "Closed", "Open", "Keep", "Update", "Note", "Bad", "Retry", "Hold", "Send", "Delay"}
)

// acts reads acts from words as the document writes them: "note 4 0, close, arm retry 30".
func acts(words string) []api.Act {
	var l []api.Act
	for w := range strings.SplitSeq(words, ", ") {
		if w == "" {
			continue
		}
		f := strings.Fields(w)
		a := api.Act{Kind: slices.Index(kindWords, f[0])}
		switch f[0] {
		case "note":
			fmt.Sscan(f[1]+" "+f[2], &a.Note.Code, &a.Note.Sub)
		case "arm":
			a.Timer = slices.Index(timerWords, f[1])
			fmt.Sscan(f[2], &a.Ticks)
		case "cancel":
			a.Timer = slices.Index(timerWords, f[1])
		}
		if a.Kind < 0 || a.Timer < 0 {
			panic("no act: " + w)
		}
		l = append(l, a)
	}
	return l
}

// list puts words of acts behind one another; those that are empty are left out.
func list(words ...string) string {
	return strings.Join(slices.DeleteFunc(words, func(w string) bool { return w == "" }), ", ")
}

// numbered answers the number of a word in one of the lists above.
func numbered(l []string, word string) int {
	i := slices.Index(l, word)
	if i < 0 {
		panic("no word: " + word)
	}
	return i
}

func input(word string) api.Input { return api.Input{Kind: numbered(inputWords, word)} }

func opens(o api.Open) api.Input { return api.Input{Kind: api.InOpen, Open: o} }

func judged(kind string, action int, code, sub uint8) api.Input {
	in := input(kind)
	in.Verdict = api.Verdict{Action: action, Code: code, Sub: sub}
	return in
}

// an is an open of V4 alone.
func an(as, id uint32, hold int) api.Open {
	return api.Open{AS: as, Id: id, Hold: hold, Fams: []int{api.V4}}
}

// all is an open that has all that an open may have.
func all(as, id uint32, hold int) api.Open {
	o := api.Open{AS: as, Id: id, Hold: hold, Four: true, Refresh: true, HasGR: true, Again: true, Time: 120}
	for fam := api.V4; fam <= api.Families; fam++ {
		o.Fams = append(o.Fams, fam)
		o.Adds = append(o.Adds, api.Add{Fam: fam, Send: true, Take: fam != api.V6})
		o.Kept = append(o.Kept, api.Restart{Fam: fam, Kept: fam != api.L4})
	}
	return o
}

// peer is one of the examples: of AS 2, with Retry 30.
func peer(passive bool) api.Peer { return api.Peer{AS: 2, Retry: 30, Passive: passive} }

func made(t *testing.T, p api.Peer, mine api.Open) *fsm.Machine {
	t.Helper()
	m, err := fsm.New(p, mine)
	if err != api.OK || m == nil {
		t.Fatalf("New: %d of %s", err, short(mine))
	}
	return m
}

// wantDo does an input and looks at what is answered, at the state behind it, and at what holds of every input; what was handed in is spoiled then, as is what is handed out.
func wantDo(t *testing.T, m *fsm.Machine, in api.Input, words, state string) {
	t.Helper()
	before := m.State()
	x := roomy(in)
	got := m.Do(x)
	wantKept(t, "Do", x, in)
	spoil(reflect.ValueOf(x))
	what := fmt.Sprintf("in %s, %s", stateWords[before], short(in))
	if !slices.Equal(got, acts(words)) {
		t.Errorf("%s: %+v, want %s", what, got, words)
	}
	if m.State() != numbered(stateWords, state) {
		t.Errorf("%s: state %d, want %s", what, m.State(), state)
	}
	wantFollows(t, before, in, got, m)
	wantOwn(t, m)
}

// wantFollows looks at what follows of each single input (P20.3 and P20.4).
func wantFollows(t *testing.T, before int, in api.Input, l []api.Act, m *fsm.Machine) {
	t.Helper()
	after := m.State()
	what := fmt.Sprintf("%d to %d by %s: %+v", before, after, short(in), l)
	_, session := m.Session()
	_, theirs := m.Theirs()
	if is := after == api.OpenConfirm || after == api.Established; session != is || theirs != is {
		t.Errorf("%s: session %t, open %t", what, session, theirs)
	}
	ups, downs := 0, 0
	for i, a := range l {
		switch a.Kind {
		case api.ActUp:
			ups++
		case api.ActDown:
			downs++
		case api.ActNote:
			if before < api.OpenSent || len(l) < i+2 || l[i+1].Kind != api.ActClose {
				t.Errorf("%s: a note that may not go out, or closes nothing", what)
			}
		}
	}
	was, is := before == api.Established, after == api.Established
	if ups != 0 && (was || !is) || downs != 0 && (!was || is) || ups > 1 || downs > 1 || ups == 0 && is && !was || downs == 0 && was && !is {
		t.Errorf("%s: %d ups, %d downs", what, ups, downs)
	}
	if in.Kind == api.InStop && after != api.Idle {
		t.Errorf("%s: not Idle behind a stop", what)
	}
}

// wantOwn looks whether the caller may do what he likes with what a machine tells.
func wantOwn(t *testing.T, m *fsm.Machine) {
	t.Helper()
	s, _ := m.Session()
	o, _ := m.Theirs()
	wasS, wasO := clone(s), clone(o)
	again, _ := m.Session()
	open, _ := m.Theirs()
	wantApart(t, "Session and Theirs", s, o, again, open, *m)
	spoil(reflect.ValueOf(s))
	spoil(reflect.ValueOf(o))
	s, _ = m.Session()
	o, _ = m.Theirs()
	if !same(s, wasS) || !same(o, wasO) {
		t.Errorf("Session and Theirs: what was handed out is kept: %s, %s", short(s), short(o))
	}
}

// step is an input, what is done of it, and the state behind it.
type step struct {
	in    api.Input
	words string
	state string
}

func wantRun(t *testing.T, m *fsm.Machine, steps ...step) {
	t.Helper()
	for _, s := range steps {
		wantDo(t, m, s.in, s.words, s.state)
	}
}

// reach brings a machine that is new to a state; the other side sends theirs.
func reach(t *testing.T, m *fsm.Machine, state string, theirs api.Open) *fsm.Machine {
	t.Helper()
	for _, in := range []api.Input{input("Start"), input("Connected"), opens(theirs), input("Keep")} {
		if m.State() == numbered(stateWords, state) {
			break
		}
		if m.Do(in); state == "Active" && m.State() == api.Connect {
			m.Do(input("Refused"))
		}
	}
	if m.State() != numbered(stateWords, state) {
		t.Fatalf("%s is not reached: %d", state, m.State())
	}
	return m
}

// at answers a machine of the examples in a state, by what the two say of Hold.
func at(t *testing.T, state string, passive bool, hold int) *fsm.Machine {
	t.Helper()
	return reach(t, made(t, peer(passive), an(1, 7, 90)), state, an(2, 9, hold))
}
