package wheel_test

import (
	"math"
	"slices"
	"testing"

	"herald/api"
	"herald/wheel"
)

// The chapter's examples stand on one wheel, line by line.
func TestP13_1Examples(t *testing.T) {
	w := wheel.New()
	wantArm(t, w, key(2, "a", 0), 9, api.OK)
	wantArm(t, w, key(1, "b", 0), 5, api.OK)
	wantArm(t, w, key(1, "a", 0), 9, api.OK)
	wantArm(t, w, key(2, "a", 0), 7, api.OK)
	wantLen(t, w, 3)

	wantAt(t, w, key(2, "a", 0), 7, true)
	wantNext(t, w, 5, true)
	wantTake(t, w, 6, []api.Fired{timer(1, "b", 0, 5)})
	wantNext(t, w, 7, true)
	wantTake(t, w, 9, []api.Fired{timer(2, "a", 0, 7), timer(1, "a", 0, 9)})
	wantLen(t, w, 0)

	wantArm(t, w, key(1, "b", 1), 3, api.OK)
	wantArm(t, w, key(3, "b", 0), 4, api.OK)
	wantArm(t, w, key(3, "c", 0), 4, api.OK)
	wantDrop(t, w, "b", 2)
	wantCancel(t, w, key(3, "c", 0), true)
	wantCancel(t, w, key(3, "c", 0), false)

	wantArm(t, w, key(0, "a", 0), 1, api.ErrArg)
	wantArm(t, w, key(1, "A", 0), 1, api.ErrArg)
	wantArm(t, w, key(1, "a", 6), 1, api.ErrArg)
	wantArm(t, w, key(1, "a", 0), 1<<40+1, api.ErrArg)
	wantAll(t, w, nil)
}

func TestP13_1New(t *testing.T) {
	w, v := wheel.New(), wheel.New()
	if w == nil || v == nil || w == v {
		t.Fatal("no wheels of their own")
	}
	wantAll(t, w, nil)
	wantArm(t, w, key(1, "a", 0), 3, api.OK)
	wantAll(t, w, []api.Fired{timer(1, "a", 0, 3)})
	wantAll(t, v, nil)
	wantAll(t, wheel.New(), nil)
}

// All keys that may be, each beside the others.
func TestP13_1EachKey(t *testing.T) {
	keys := keysOf(kinds, names, fams)
	if len(keys) > most {
		t.Fatalf("%d keys are too many for one wheel", len(keys))
	}
	w := wheel.New()
	var want []api.Fired
	for i, k := range keys {
		wantAt(t, w, k, 0, false)
		wantArm(t, w, k, uint64(i), api.OK)
		want = append(want, api.Fired{At: uint64(i), Key: k})
		wantLen(t, w, i+1)
	}
	wantAll(t, w, want)
}

func TestP13_1WrongKeys(t *testing.T) {
	w := wheel.New()
	for _, k := range wrongKeys() {
		for _, at := range []uint64{0, 1, lastTick, lastTick + 1} {
			wantArm(t, w, k, at, api.ErrArg)
		}
		wantAt(t, w, k, 0, false)
	}
	wantAll(t, w, nil)
	wantArm(t, w, key(1, "a", 0), 5, api.OK)
	for _, k := range wrongKeys() {
		wantArm(t, w, k, 1, api.ErrArg)
	}
	wantAll(t, w, []api.Fired{timer(1, "a", 0, 5)})
}

// Each byte at each place of names, short and long.
func TestP13_1EachByteOfAName(t *testing.T) {
	for _, name := range []string{"a", "a0", "ab-", "a234567890123456"} {
		for at := range len(name) {
			for c := range 256 {
				w := wheel.New()
				k := key(4, name[:at]+string([]byte{byte(c)})+name[at+1:], 2)
				want, timers := api.ErrArg, []api.Fired(nil)
				if right(k) {
					want, timers = api.OK, []api.Fired{{At: 8, Key: k}}
				}
				wantArm(t, w, k, 8, want)
				wantAll(t, w, timers)
			}
		}
	}
}

// All numbers near those that may be.
func TestP13_1EachNumberOfAKey(t *testing.T) {
	for n := -300; n <= 300; n++ {
		for _, k := range []api.Key{key(n, "a", 0), key(1, "a", n), key(n, "a", n)} {
			w := wheel.New()
			want := api.ErrArg
			if right(k) {
				want = api.OK
			}
			wantArm(t, w, k, 0, want)
		}
	}
}

func TestP13_1Ticks(t *testing.T) {
	for _, at := range ticks {
		w := wheel.New()
		k := key(2, "a", 1)
		if at > lastTick {
			wantArm(t, w, k, at, api.ErrArg)
			wantAll(t, w, nil)
			continue
		}
		wantArm(t, w, k, at, api.OK)
		wantAll(t, w, []api.Fired{{At: at, Key: k}})
	}
}

// A timer that is there stays as it is, if it can't be moved.
func TestP13_1NotMoved(t *testing.T) {
	for _, at := range []uint64{0, 7, lastTick} {
		w := wheel.New()
		k := key(7, "b", 5)
		wantArm(t, w, k, at, api.OK)
		wantArm(t, w, k, lastTick+1, api.ErrArg)
		wantArm(t, w, k, math.MaxUint64, api.ErrArg)
		wantAll(t, w, []api.Fired{{At: at, Key: k}})
	}
}

// A timer is moved from each tick to each other one: it is due there alone.
func TestP13_1Moved(t *testing.T) {
	k := key(3, "c", 3)
	stay := timer(3, "c", 2, 1000)
	for _, from := range ticks {
		for _, to := range ticks {
			if from > lastTick || to > lastTick {
				continue
			}
			w := armed(t, []api.Fired{{At: from, Key: k}, stay, {At: to, Key: k}})
			wantLen(t, w, 2)
			wantAll(t, w, sorted([]api.Fired{stay, {At: to, Key: k}}))
			if to > 0 {
				for _, f := range w.Copy().Take(to - 1) {
					if f.Key == k {
						t.Errorf("from %d to %d: taken at %d", from, to, to-1)
					}
				}
			}
			w.Take(to)
			wantAt(t, w, k, 0, false)
			for _, f := range w.Take(math.MaxUint64) {
				if f.Key == k {
					t.Errorf("from %d to %d: taken twice", from, to)
				}
			}
		}
	}
}

// Keys that differ in one field alone are two.
func TestP13_1Unlike(t *testing.T) {
	l := []api.Fired{timer(1, "a", 1, 4), timer(2, "a", 1, 4), timer(1, "b", 1, 4), timer(1, "aa", 1, 4), timer(1, "a", 2, 4), timer(1, "a", 0, 4)}
	for i, gone := range l {
		w := armed(t, l)
		wantLen(t, w, len(l))
		wantArm(t, w, gone.Key, 9, api.OK)
		left := slices.Delete(slices.Clone(l), i, i+1)
		wantAll(t, w, sorted(append(left, api.Fired{At: 9, Key: gone.Key})))
	}
}

func TestP13_1Full(t *testing.T) {
	w, l := full(t)
	others := []api.Key{key(1, "q", 0), key(1, "p24", 3), key(1, "p", 0), key(7, "p0-", 5)}
	for _, k := range others {
		for _, at := range []uint64{0, 50, lastTick} {
			wantArm(t, w, k, at, api.ErrFull)
		}
		wantAt(t, w, k, 0, false)
		wantCancel(t, w, k, false)
	}
	wantAll(t, w, l)
}

// One that is there is moved in a full wheel, too.
func TestP13_1FullMoved(t *testing.T) {
	w, l := full(t)
	for i, f := range l {
		wantArm(t, w, f.Key, f.At+3, api.OK)
		l[i].At += 3
	}
	wantAll(t, w, sorted(l))
	wantArm(t, w, key(1, "q", 0), 1, api.ErrFull)
}

// What may not be is told ahead of a full wheel.
func TestP13_1FullAndWrong(t *testing.T) {
	w, l := full(t)
	for _, k := range wrongKeys() {
		wantArm(t, w, k, 1, api.ErrArg)
	}
	wantArm(t, w, key(1, "q", 0), lastTick+1, api.ErrArg)
	wantArm(t, w, l[0].Key, lastTick+1, api.ErrArg)
	wantAll(t, w, l)
}

// Where one has gone, in whatever way, there is room for just one.
func TestP13_1FullNoMore(t *testing.T) {
	one := key(1, "zone", 0)
	for _, go1 := range []func(w *wheel.Wheel) int{
		func(w *wheel.Wheel) int { w.Cancel(key(1, "p0", 0)); return 1 },
		func(w *wheel.Wheel) int { return w.Drop("p3") },
		func(w *wheel.Wheel) int { return len(w.Take(0)) },
		func(w *wheel.Wheel) int { return len(w.Take(99)) },
	} {
		w, _ := full(t)
		wantArm(t, w, one, 1, api.ErrFull)
		gone := go1(w)
		if gone == 0 {
			t.Fatal("none has gone")
		}
		wantLen(t, w, most-gone)
		for i := range gone {
			wantArm(t, w, key(1+i%7, "q"+string([]byte{byte('a' + i/26%26), byte('a' + i%26), byte('a' + i/676)}), 0), 1, api.OK)
		}
		wantLen(t, w, most)
		wantArm(t, w, one, 1, api.ErrFull)
	}
}

// The last ones up to the limit, one by one.
func TestP13_1UpToFull(t *testing.T) {
	w, l := full(t)
	for _, f := range l[:3] {
		wantCancel(t, w, f.Key, true)
	}
	for i, want := range []api.Errno{api.OK, api.OK, api.OK, api.ErrFull, api.ErrFull} {
		wantArm(t, w, key(2, "q", i), 77, want)
		wantLen(t, w, min(most-2+i, most))
	}
}

// Wheels that no call made, in each call; nothing that is done to them changes that.
func TestP13_1NotThere(t *testing.T) {
	for _, w := range []*wheel.Wheel{nil, {}, new(wheel.Wheel)} {
		for range 2 {
			for _, k := range append(keysOf([]int{0, 1, 7, 8}, []string{"", "a", "A"}, []int{-1, 0, 5, 6}), api.Key{}) {
				for _, at := range []uint64{0, 1, lastTick, lastTick + 1, math.MaxUint64} {
					wantArm(t, w, k, at, api.ErrNil)
				}
				wantCancel(t, w, k, false)
				wantAt(t, w, k, 0, false)
			}
			wantNext(t, w, 0, false)
			for _, now := range ticks {
				wantTake(t, w, now, nil)
			}
			for _, peer := range []string{"", "a", "A"} {
				wantDrop(t, w, peer, 0)
			}
			wantLen(t, w, 0)
			if c := w.Copy(); c != nil {
				t.Errorf("there is a copy: %s", brief(c))
			}
		}
	}
}

func TestP13_2Cancel(t *testing.T) {
	l := sorted([]api.Fired{timer(1, "a", 0, 0), timer(2, "a", 0, 5), timer(1, "b", 0, 5), timer(1, "a", 5, lastTick), timer(7, "c", 1, 9)})
	for i, f := range l {
		w := armed(t, l)
		wantCancel(t, w, f.Key, true)
		wantAt(t, w, f.Key, 0, false)
		wantAll(t, w, slices.Delete(slices.Clone(l), i, i+1))
		wantCancel(t, w, f.Key, false)
		wantAll(t, w, slices.Delete(slices.Clone(l), i, i+1))
		wantArm(t, w, f.Key, 6, api.OK)
		wantAt(t, w, f.Key, 6, true)
		wantLen(t, w, len(l))
	}
}

// Keys of which there is no timer, such that may not be among them, change nothing.
func TestP13_2CancelNone(t *testing.T) {
	l := sorted([]api.Fired{timer(1, "a", 0, 3), timer(2, "b", 1, 4)})
	w := armed(t, l)
	for _, k := range append(wrongKeys(), key(2, "a", 0), key(1, "b", 0), key(1, "a", 1), key(1, "aa", 0), key(2, "b", 0)) {
		wantCancel(t, w, k, false)
		wantAt(t, w, k, 0, false)
	}
	wantAll(t, w, l)
	wantCancel(t, wheel.New(), key(1, "a", 0), false)
}

func TestP13_2CancelAll(t *testing.T) {
	w, l := full(t)
	for i, f := range shuffled(l, 1) {
		wantCancel(t, w, f.Key, true)
		wantLen(t, w, most-1-i)
	}
	wantAll(t, w, nil)
}

// Asking changes nothing.
func TestP13_2AskedOnly(t *testing.T) {
	l := []api.Fired{timer(1, "a", 0, 3), timer(2, "a", 0, 4)}
	w := armed(t, l)
	for range 3 {
		wantAt(t, w, key(1, "a", 0), 3, true)
		wantAt(t, w, key(2, "a", 0), 4, true)
		wantAt(t, w, key(3, "a", 0), 0, false)
		wantNext(t, w, 3, true)
		wantLen(t, w, 2)
	}
	wantAll(t, w, l)
}

// A timer at the tick 0 is there: its answer is told by true alone.
func TestP13_2AtNought(t *testing.T) {
	w := armed(t, []api.Fired{timer(1, "a", 0, 0)})
	wantAt(t, w, key(1, "a", 0), 0, true)
	wantNext(t, w, 0, true)
	wantCancel(t, w, key(1, "a", 0), true)
	wantAt(t, w, key(1, "a", 0), 0, false)
	wantNext(t, w, 0, false)
}

func TestP13_2Drop(t *testing.T) {
	var l []api.Fired
	for i, k := range keysOf(kinds, []string{"a", "aa", "b", "a-"}, fams) {
		l = append(l, api.Fired{At: uint64(i % 9), Key: k})
	}
	l = append(l, timer(4, "c", 2, 6))
	for peer, n := range map[string]int{"a": 42, "aa": 42, "b": 42, "a-": 42, "c": 1, "d": 0, "": 0, "A": 0, "a\x00": 0, "ab": 0, "-": 0} {
		w := armed(t, l)
		m := model(l)
		m.drop(peer)
		wantDrop(t, w, peer, n)
		wantAll(t, w, sorted(m))
		wantDrop(t, w, peer, 0)
		wantAll(t, w, sorted(m))
	}
}

func TestP13_2DropOfNone(t *testing.T) {
	w := wheel.New()
	for _, peer := range append(names, notNames...) {
		wantDrop(t, w, peer, 0)
	}
	wantAll(t, w, nil)
}

// All of a full wheel go by their peers; then they may be armed again.
func TestP13_2DropAll(t *testing.T) {
	w, l := full(t)
	m := model(l)
	for len(m) > 0 {
		peer := m[len(m)/2].Key.Peer
		wantDrop(t, w, peer, m.drop(peer))
		wantLen(t, w, len(m))
	}
	wantAll(t, w, nil)
	for _, f := range l {
		wantArm(t, w, f.Key, f.At, api.OK)
	}
	wantAll(t, w, l)
}
