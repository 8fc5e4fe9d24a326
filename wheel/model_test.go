package wheel_test

import (
	"fmt"
	"math"
	"math/rand"
	"regexp"
	"slices"
	"strings"
	"testing"

	"herald/api"
	"herald/wheel"
)

// Limits, as the document writes them.
const (
	lastTick = 1 << 40
	most     = 1024
)

// ticks are about all edges; those behind lastTick may not be.
var ticks = []uint64{0, 1, 2, 3, 255, 256, 1<<16 - 1, 1 << 16, 1<<31 - 1, 1 << 31, 1<<32 - 1, 1 << 32, 1<<32 + 1, lastTick - 1, lastTick, lastTick + 1, lastTick + 2, 1<<40 + 1<<32, 1 << 41, 1<<63 - 1, 1 << 63, math.MaxUint64 - 1, math.MaxUint64}

// kinds and fams are those that may be; the numbers that are none have the lowest bits of some that are.
var (
	kinds    = []int{api.TimeRetry, api.TimeHold, api.TimeSend, api.TimePace, api.TimeRestart, api.TimeDefer, api.TimeStale}
	noKinds  = []int{math.MinInt, math.MinInt + 1, math.MinInt32, -1 << 32, -255, -8, -7, -1, 0, 8, 9, 15, 16, 255, 256, 257, 263, 1<<16 + 1, 1 << 31, 1<<32 + 1, 1<<32 + 7, math.MaxInt32, math.MaxInt}
	fams     = []int{0, api.V4, api.V6, api.L4, api.Vpn4, api.Vpn6}
	noFams   = []int{math.MinInt, math.MinInt + 1, math.MinInt32, -1 << 32, -256, -255, -6, -5, -1, 6, 7, 8, 255, 256, 257, 261, 1 << 16, 1 << 31, 1 << 32, 1<<32 + 5, math.MaxInt32, math.MaxInt}
	names    = []string{"a", "a-", "a--", "a-0", "a0", "a9z", "aa", "ab", "b", "m", "z", "z9", "zz", "router-7", "a23456789012345", "a234567890123456", "z---------------", "zzzzzzzzzzzzzzzz"}
	notNames = []string{"", "A", "Z", "1", "1a", "9", "-", "-a", "_", "aA", "aZb", "a_", "a.b", "a b", "a ", " a", "a\n", "\na", "a\x00", "\x00", "\x00a", "a/", "a:", "a`", "`a", "a{", "{a", "a@", "a[", "\xe4", "a\xe4", "ä", "aä", "ａ", "a\xff", "a\x80", "a\xad", "\xe1", "a234567890123456-", "a2345678901234567", "zzzzzzzzzzzzzzzzz", strings.Repeat("a", 32), strings.Repeat("a", 256), strings.Repeat("a", 257), strings.Repeat("a", 1<<17), strings.Repeat("a", 15) + "A", strings.Repeat("a", 15) + "\xff"}
)

func key(kind int, peer string, fam int) api.Key { return api.Key{Kind: kind, Peer: peer, Fam: fam} }

func timer(kind int, peer string, fam int, at uint64) api.Fired {
	return api.Fired{At: at, Key: key(kind, peer, fam)}
}

// keysOf are all keys of kinds, names and families.
func keysOf(kinds []int, names []string, fams []int) []api.Key {
	var l []api.Key
	for _, kind := range kinds {
		for _, name := range names {
			for _, fam := range fams {
				l = append(l, key(kind, name, fam))
			}
		}
	}
	return l
}

// wrongKeys may not be, each for one reason or for several.
func wrongKeys() []api.Key {
	l := []api.Key{{}, key(0, "", 0), key(0, "", 6), key(8, "A", -1), key(0, "a", 6), key(1, "", 6), key(8, "", 0)}
	l = append(l, keysOf(noKinds, []string{"a", "z9"}, fams)...)
	l = append(l, keysOf(kinds, notNames, []int{0, 5})...)
	return append(l, keysOf(kinds, []string{"a", "z9"}, noFams)...)
}

var nameForm = regexp.MustCompile(`\A[a-z][a-z0-9-]{0,15}\z`)

func right(k api.Key) bool {
	return slices.Contains(kinds, k.Kind) && nameForm.MatchString(k.Peer) && slices.Contains(fams, k.Fam)
}

// model has timers in a list, which is gone through anew for each answer.
type model []api.Fired

func (m *model) find(k api.Key) int {
	return slices.IndexFunc(*m, func(f api.Fired) bool { return f.Key == k })
}

func (m *model) arm(k api.Key, at uint64) api.Errno {
	i := m.find(k)
	if !right(k) || at > lastTick {
		return api.ErrArg
	}
	if i < 0 && len(*m) >= most {
		return api.ErrFull
	}
	m.out(func(f api.Fired) bool { return f.Key == k })
	*m = append(*m, api.Fired{At: at, Key: k})
	return api.OK
}

// out takes those of which is holds out of the model, and answers them as they stood.
func (m *model) out(is func(api.Fired) bool) []api.Fired {
	var gone []api.Fired
	var left model
	for _, f := range *m {
		if is(f) {
			gone = append(gone, f)
		} else {
			left = append(left, f)
		}
	}
	*m = left
	return gone
}

func (m *model) cancel(k api.Key) bool {
	return len(m.out(func(f api.Fired) bool { return f.Key == k })) > 0
}

func (m *model) drop(peer string) int {
	return len(m.out(func(f api.Fired) bool { return f.Key.Peer == peer }))
}

func (m *model) take(now uint64) []api.Fired {
	return sorted(m.out(func(f api.Fired) bool { return f.At <= now }))
}

func (m *model) at(k api.Key) (uint64, bool) {
	if i := m.find(k); i >= 0 {
		return (*m)[i].At, true
	}
	return 0, false
}

func (m *model) next() (uint64, bool) {
	if len(*m) == 0 {
		return 0, false
	}
	return sorted(*m)[0].At, true
}

// place is a text by whose order timers stand: blanks behind a name are ahead of all that a name has.
func place(f api.Fired) string {
	return fmt.Sprintf("%020d %d %-16s %d", f.At, f.Key.Kind, f.Key.Peer, f.Key.Fam)
}

func sorted(l []api.Fired) []api.Fired {
	l = slices.Clone(l)
	slices.SortFunc(l, func(a, b api.Fired) int { return strings.Compare(place(a), place(b)) })
	return l
}

// armed is a wheel with these timers, armed in this order.
func armed(t *testing.T, l []api.Fired) *wheel.Wheel {
	t.Helper()
	w := wheel.New()
	for _, f := range l {
		wantArm(t, w, f.Key, f.At, api.OK)
	}
	return w
}

// full is a wheel with as many timers as it may have, and these timers in order.
func full(t *testing.T) (*wheel.Wheel, []api.Fired) {
	t.Helper()
	var l []api.Fired
	for i := range most {
		l = append(l, timer(1+i%7, fmt.Sprintf("p%d", i/42), i/7%6, uint64(i*37%100)))
	}
	w := armed(t, l)
	wantLen(t, w, most)
	return w, sorted(l)
}

// shuffled are timers in another order, the same at each run.
func shuffled(l []api.Fired, seed int64) []api.Fired {
	l = slices.Clone(l)
	rand.New(rand.NewSource(seed)).Shuffle(len(l), func(i, j int) { l[i], l[j] = l[j], l[i] })
	return l
}

func wantArm(t *testing.T, w *wheel.Wheel, k api.Key, at uint64, want api.Errno) {
	t.Helper()
	if e := w.Arm(k, at); e != want {
		t.Errorf("Arm(%s, %d): %d, want %d", brief(k), at, e, want)
	}
}

func wantCancel(t *testing.T, w *wheel.Wheel, k api.Key, want bool) {
	t.Helper()
	if was := w.Cancel(k); was != want {
		t.Errorf("Cancel(%s): %t, want %t", brief(k), was, want)
	}
}

func wantAt(t *testing.T, w *wheel.Wheel, k api.Key, want uint64, must bool) {
	t.Helper()
	if at, is := w.At(k); at != want || is != must {
		t.Errorf("At(%s): %d, %t, want %d, %t", brief(k), at, is, want, must)
	}
}

func wantNext(t *testing.T, w *wheel.Wheel, want uint64, must bool) {
	t.Helper()
	if at, is := w.Next(); at != want || is != must {
		t.Errorf("Next: %d, %t, want %d, %t", at, is, want, must)
	}
}

func wantTake(t *testing.T, w *wheel.Wheel, now uint64, want []api.Fired) {
	t.Helper()
	if l := w.Take(now); !slices.Equal(l, want) {
		t.Errorf("Take(%d): %s, want %s", now, brief(l), brief(want))
	}
}

func wantDrop(t *testing.T, w *wheel.Wheel, peer string, want int) {
	t.Helper()
	if n := w.Drop(peer); n != want {
		t.Errorf("Drop(%s): %d, want %d", brief(peer), n, want)
	}
}

func wantLen(t *testing.T, w *wheel.Wheel, want int) {
	t.Helper()
	if n := w.Len(); n != want {
		t.Errorf("Len: %d, want %d", n, want)
	}
}

// wantAll holds whatever can be asked of a wheel against the timers that it must have, in order, and leaves it as it is.
func wantAll(t *testing.T, w *wheel.Wheel, want []api.Fired) {
	t.Helper()
	wantLen(t, w, len(want))
	m := model(want)
	least, is := m.next()
	wantNext(t, w, least, is)
	for _, f := range want {
		wantAt(t, w, f.Key, f.At, true)
	}
	wantTake(t, w.Copy(), math.MaxUint64, want)
}

// brief shows whatever it is in at most some bytes.
func brief(x any) string {
	s := fmt.Sprintf("%#v", x)
	if len(s) > 300 {
		s = strings.ToValidUTF8(s[:300], "") + ".."
	}
	return s
}
