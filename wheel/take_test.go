package wheel_test

import (
	"math"
	"math/rand"
	"slices"
	"testing"

	"herald/api"
	"herald/wheel"
)

// some are timers at several ticks, several of them at one, that differ in each field of their keys; in order.
var some = []api.Fired{
	timer(7, "z", 5, 0),
	timer(1, "b", 0, 3),
	timer(1, "a", 0, 4), timer(1, "a", 1, 4), timer(1, "a", 5, 4), timer(1, "a-", 0, 4), timer(1, "a0", 0, 4), timer(1, "aa", 0, 4), timer(1, "b", 1, 4), timer(2, "a", 0, 4), timer(3, "a", 0, 4), timer(7, "a", 0, 4),
	timer(2, "b", 0, 5),
	timer(1, "c", 0, 255), timer(1, "c", 1, 256), timer(2, "c", 0, 1<<32-1), timer(1, "c", 2, 1<<32), timer(3, "c", 0, 1<<32+4),
	timer(4, "a", 0, lastTick-1), timer(4, "b", 0, lastTick), timer(5, "a", 0, lastTick),
}

// split cuts timers that are in order behind those that are due at now.
func split(l []api.Fired, now uint64) (due, left []api.Fired) {
	for _, f := range l {
		if f.At <= now {
			due = append(due, f)
		} else {
			left = append(left, f)
		}
	}
	return due, left
}

func TestP13_3Next(t *testing.T) {
	w := wheel.New()
	wantNext(t, w, 0, false)
	for _, step := range []struct {
		do   func()
		want uint64
		is   bool
	}{
		{func() { w.Arm(key(1, "a", 0), lastTick) }, lastTick, true},
		{func() { w.Arm(key(2, "a", 0), 1<<32) }, 1 << 32, true},
		{func() { w.Arm(key(3, "a", 0), 1<<32+1) }, 1 << 32, true},
		{func() { w.Arm(key(1, "b", 0), 7) }, 7, true},
		{func() { w.Arm(key(1, "c", 0), 7) }, 7, true},
		{func() { w.Arm(key(1, "b", 0), 9) }, 7, true},
		{func() { w.Arm(key(1, "c", 0), 12) }, 9, true},
		{func() { w.Arm(key(2, "a", 0), 2) }, 2, true},
		{func() { w.Arm(key(4, "a", 0), 0) }, 0, true},
		{func() { w.Cancel(key(4, "a", 0)) }, 2, true},
		{func() { w.Take(1) }, 2, true},
		{func() { w.Take(2) }, 9, true},
		{func() { w.Arm(key(0, "a", 0), 1) }, 9, true},
		{func() { w.Drop("b") }, 12, true},
		{func() { w.Drop("c") }, 1<<32 + 1, true},
		{func() { w.Take(1<<32 + 1) }, lastTick, true},
		{func() { w.Take(lastTick) }, 0, false},
		{func() { w.Arm(key(1, "a", 0), 3) }, 3, true},
	} {
		step.do()
		for range 2 {
			wantNext(t, w, step.want, step.is)
		}
	}
}

// Take at each tick about those at which timers are due, and far behind all.
func TestP13_3Take(t *testing.T) {
	for _, now := range append([]uint64{4, 5, 6, 100, 254, 1<<32 + 3, 1<<32 + 4, 1<<32 + 5}, ticks...) {
		due, left := split(some, now)
		w := armed(t, some)
		wantTake(t, w, now, due)
		wantAll(t, w, left)
		wantTake(t, w, now, nil)
		wantAll(t, w, left)
		for _, f := range due {
			wantAt(t, w, f.Key, 0, false)
			wantCancel(t, w, f.Key, false)
		}
	}
}

func TestP13_3TakeOfNone(t *testing.T) {
	w := wheel.New()
	for _, now := range ticks {
		wantTake(t, w, now, nil)
	}
	wantArm(t, w, key(1, "a", 0), 9, api.OK)
	for now := range uint64(9) {
		wantTake(t, w, now, nil)
		wantLen(t, w, 1)
	}
	wantTake(t, w, 9, []api.Fired{timer(1, "a", 0, 9)})
	wantTake(t, w, 9, nil)
}

// A wheel keeps no tick: what is armed ahead of one at which was taken is due as any other.
func TestP13_3TakeBack(t *testing.T) {
	w := armed(t, []api.Fired{timer(1, "a", 0, 8)})
	wantTake(t, w, 100, []api.Fired{timer(1, "a", 0, 8)})
	wantArm(t, w, key(1, "a", 0), 3, api.OK)
	wantArm(t, w, key(1, "b", 0), 50, api.OK)
	wantAll(t, w, []api.Fired{timer(1, "a", 0, 3), timer(1, "b", 0, 50)})
	wantTake(t, w, 2, nil)
	wantTake(t, w, 3, []api.Fired{timer(1, "a", 0, 3)})
	wantTake(t, w, 50, []api.Fired{timer(1, "b", 0, 50)})
	wantAll(t, w, nil)
}

// A timer that was taken may be armed again, and comes again.
func TestP13_3TakeAgain(t *testing.T) {
	w := wheel.New()
	for at := range uint64(50) {
		wantArm(t, w, key(3, "a", 0), at, api.OK)
		wantTake(t, w, at, []api.Fired{timer(3, "a", 0, at)})
		wantLen(t, w, 0)
	}
}

func TestP13_3TakeFull(t *testing.T) {
	w, l := full(t)
	due, left := split(l, 40)
	wantTake(t, w, 40, due)
	wantAll(t, w, left)
	wantTake(t, w, math.MaxUint64, left)
	wantAll(t, w, nil)
}

// What was answered may be changed, with the room behind it: neither the wheel nor another answer hears of it.
func TestP13_3AnswersChanged(t *testing.T) {
	w, l := full(t)
	c := w.Copy()
	first, second := w.Take(50), c.Take(50)
	due, left := split(l, 50)
	spoil(first)
	if !slices.Equal(second, due) {
		t.Errorf("the copy's answer: %s", brief(second))
	}
	wantAll(t, w, left)
	wantAll(t, c, left)
	third := w.Take(60)
	spoil(second)
	more, rest := split(left, 60)
	if !slices.Equal(third, more) {
		t.Errorf("the later answer: %s", brief(third))
	}
	wantAll(t, w, rest)
	wantAll(t, c, left)
}

func spoil(l []api.Fired) {
	l = l[:cap(l)]
	for i := range l {
		l[i] = timer(9, "spoilt", 9, 9)
	}
}

// What was told is not changed by what is done later.
func TestP13_3AnswersStay(t *testing.T) {
	w, l := full(t)
	first := w.Take(30)
	due, _ := split(l, 30)
	for _, f := range l {
		w.Arm(f.Key, 20)
	}
	w.Take(99)
	if !slices.Equal(first, due) {
		t.Errorf("the first answer: %s", brief(first))
	}
}

// What is done to a key behind the call is not heard.
func TestP13_3ArgumentsChanged(t *testing.T) {
	w := wheel.New()
	name := []byte("abc")
	k := key(1, string(name), 2)
	wantArm(t, w, k, 4, api.OK)
	copy(name, "xyz")
	k.Kind, k.Peer, k.Fam = 2, "z", 3
	wantAll(t, w, []api.Fired{timer(1, "abc", 2, 4)})
}

func TestP13_3Len(t *testing.T) {
	w := wheel.New()
	for i, f := range some {
		wantLen(t, w, i)
		wantArm(t, w, f.Key, f.At, api.OK)
		wantArm(t, w, f.Key, f.At, api.OK)
		wantArm(t, w, f.Key, lastTick+1, api.ErrArg)
		wantArm(t, w, key(0, "a", 0), 1, api.ErrArg)
		wantLen(t, w, i+1)
	}
}

// Whatever is done to a copy, or to the one that it was made of, the other one does not hear.
func TestP13_3Copy(t *testing.T) {
	for i, do := range []func(w *wheel.Wheel){
		func(w *wheel.Wheel) {},
		func(w *wheel.Wheel) { w.Arm(key(6, "new", 0), 1) },
		func(w *wheel.Wheel) { w.Arm(key(1, "b", 0), 77) },
		func(w *wheel.Wheel) { w.Cancel(key(1, "b", 0)) },
		func(w *wheel.Wheel) { w.Drop("a") },
		func(w *wheel.Wheel) { w.Take(4) },
		func(w *wheel.Wheel) { w.Take(math.MaxUint64) },
		func(w *wheel.Wheel) { w.Take(math.MaxUint64); w.Arm(key(1, "b", 0), 8) },
	} {
		alone := armed(t, some)
		do(alone)
		changed := alone.Copy().Take(math.MaxUint64)

		w := armed(t, some)
		c := w.Copy()
		if c == nil || c == w {
			t.Fatalf("%d: no copy of its own", i)
		}
		do(c)
		wantAll(t, w, some)
		wantAll(t, c, changed)

		w = armed(t, some)
		c = w.Copy()
		do(w)
		wantAll(t, w, changed)
		wantAll(t, c, some)
	}
}

// A copy of a wheel without timers is one that takes them.
func TestP13_3CopyOfNone(t *testing.T) {
	w := wheel.New()
	for range 3 {
		c := w.Copy()
		if c == nil {
			t.Fatal("there is no copy")
		}
		wantAll(t, c, nil)
		wantArm(t, c, key(1, "a", 0), 5, api.OK)
		wantAll(t, c, []api.Fired{timer(1, "a", 0, 5)})
		wantAll(t, w, nil)
		c.Take(5)
		w = c
	}
}

// A copy of a full wheel is full.
func TestP13_3CopyOfFull(t *testing.T) {
	w, l := full(t)
	c := w.Copy()
	wantArm(t, c, key(1, "q", 0), 1, api.ErrFull)
	wantArm(t, c, l[0].Key, 98, api.OK)
	wantCancel(t, c, l[1].Key, true)
	wantArm(t, c, key(1, "q", 0), 1, api.OK)
	wantArm(t, c, key(2, "q", 0), 1, api.ErrFull)
	wantArm(t, w, key(1, "q", 0), 1, api.ErrFull)
	wantAll(t, w, l)
}

// permutations calls do with each order of a list.
func permutations(l []api.Fired, do func([]api.Fired)) {
	var from func(int)
	from = func(i int) {
		if i == len(l) {
			do(l)
			return
		}
		for j := i; j < len(l); j++ {
			l[i], l[j] = l[j], l[i]
			from(i + 1)
			l[i], l[j] = l[j], l[i]
		}
	}
	l = slices.Clone(l)
	from(0)
}

// byTicks takes tick by tick.
func byTicks(w *wheel.Wheel, last uint64) []api.Fired {
	var all []api.Fired
	for now := range last + 1 {
		all = append(all, w.Take(now)...)
	}
	return all
}

// The order by hand: At ahead of Kind, Kind ahead of Peer, Peer ahead of Fam.
func TestP13_4Order(t *testing.T) {
	want := []api.Fired{timer(7, "b", 5, 1), timer(1, "b", 5, 2), timer(2, "a", 5, 2), timer(2, "b", 1, 2), timer(2, "b", 2, 2), timer(1, "a", 0, 3)}
	permutations(want, func(l []api.Fired) {
		wantTake(t, armed(t, l), 3, want)
		if got := byTicks(armed(t, l), 3); !slices.Equal(got, want) {
			t.Errorf("%s, tick by tick: %s", brief(l), brief(got))
		}
	})
}

// Names stand byte by byte: - ahead of digits, digits ahead of letters, a short one ahead of what goes on from it.
func TestP13_4OrderOfPeers(t *testing.T) {
	sortedNames := []string{"a", "a-", "a-0", "a-a", "a0", "a00", "a1", "a9", "aa", "ab", "b", "ba", "z"}
	var want []api.Fired
	for _, name := range sortedNames {
		want = append(want, timer(5, name, 3, 6))
	}
	for seed := range int64(50) {
		wantTake(t, armed(t, shuffled(want, seed)), 6, want)
	}
}

func TestP13_4SeveralOrders(t *testing.T) {
	w, l := full(t)
	wantTake(t, w, 99, l)
	for seed := range int64(30) {
		order := shuffled(l, seed)
		wantTake(t, armed(t, order), 99, l)
		if got := byTicks(armed(t, order), 99); !slices.Equal(got, l) {
			t.Errorf("order %d, tick by tick: %s", seed, brief(got))
		}
		var got []api.Fired
		w := armed(t, order)
		for now, is := w.Next(); is; now, is = w.Next() {
			got = append(got, w.Take(now)...)
		}
		if !slices.Equal(got, l) {
			t.Errorf("order %d, from one to the next: %s", seed, brief(got))
		}
	}
}

// Ticks that are far from one another, in all orders of some of them.
func TestP13_4FarTicks(t *testing.T) {
	want := []api.Fired{timer(7, "a", 0, 0), timer(6, "a", 0, 255), timer(5, "a", 0, 1<<31), timer(4, "a", 0, 1<<32), timer(3, "a", 0, 1<<32+1), timer(2, "a", 0, lastTick-1), timer(1, "a", 0, lastTick)}
	permutations(want, func(l []api.Fired) {
		wantTake(t, armed(t, l), math.MaxUint64, want)
	})
}

// How a wheel came to its timers is not to be seen: by moves, by copies, by others that went.
func TestP13_4HowTheyCame(t *testing.T) {
	_, l := full(t)
	for seed := range int64(10) {
		w := wheel.New()
		for i, f := range shuffled(l, seed) {
			w.Arm(f.Key, uint64(i%77)+1)
		}
		wantTake(t, w, 0, nil)
		for _, f := range shuffled(l, seed+100) {
			w.Cancel(f.Key)
			w.Arm(key(1, "passing", 0), 1)
			w.Take(0)
			w.Drop("passing")
			wantArm(t, w, f.Key, f.At, api.OK)
			if f.At == 0 {
				w = w.Copy()
			}
		}
		// Those at 0 went when the tick 0 was taken.
		for _, f := range l {
			w.Arm(f.Key, f.At)
		}
		wantAll(t, w, l)
	}
}

// What was cancelled, dropped, or moved behind now is not taken.
func TestP13_4Gone(t *testing.T) {
	w := armed(t, []api.Fired{timer(1, "a", 0, 3), timer(2, "a", 0, 3), timer(3, "a", 0, 3), timer(1, "b", 0, 3), timer(2, "b", 1, 2), timer(1, "c", 0, 9)})
	wantCancel(t, w, key(1, "a", 0), true)
	wantArm(t, w, key(2, "a", 0), 4, api.OK)
	wantDrop(t, w, "b", 2)
	wantArm(t, w, key(1, "c", 0), 1, api.OK)
	wantTake(t, w, 3, []api.Fired{timer(1, "c", 0, 1), timer(3, "a", 0, 3)})
	wantTake(t, w, 3, nil)
	wantTake(t, w, 4, []api.Fired{timer(2, "a", 0, 4)})
	wantTake(t, w, math.MaxUint64, nil)
}

// What is taken and what is left is all that there was, at each tick.
func TestP13_5All(t *testing.T) {
	_, l := full(t)
	for now := range uint64(101) {
		w := armed(t, shuffled(l, int64(now)))
		taken := w.Take(now)
		left := w.Take(math.MaxUint64)
		for _, f := range taken {
			if f.At > now {
				t.Errorf("Take(%d) tells %s", now, brief(f))
			}
		}
		for _, f := range left {
			if f.At <= now {
				t.Errorf("Take(%d) leaves %s", now, brief(f))
			}
		}
		if all := append(taken, left...); !slices.Equal(all, l) {
			t.Errorf("Take(%d), and what is left: %s", now, brief(all))
		}
	}
}

// Long ways of all calls, held against the model.
func TestP13_5Walks(t *testing.T) {
	pool := keysOf([]int{1, 2, 7}, []string{"a", "a-", "b", "zz"}, []int{0, 1, 5})
	pool = append(pool, key(0, "a", 0), key(8, "a", 0), key(1, "A", 0), key(1, "", 0), key(1, "b", 6), key(1, "b", -1))
	for seed := range int64(40) {
		r := rand.New(rand.NewSource(seed))
		walk(t, r, pool, 300)
		if t.Failed() {
			t.Fatalf("walk %d", seed)
		}
	}
}

func walk(t *testing.T, r *rand.Rand, pool []api.Key, steps int) {
	w, m := wheel.New(), model{}
	now := uint64(0)
	for range steps {
		k := pool[r.Intn(len(pool))]
		switch r.Intn(12) {
		case 0, 1, 2, 3, 4:
			at := now + uint64(r.Intn(12))
			wantArm(t, w, k, at, m.arm(k, at))
		case 5:
			at := ticks[r.Intn(len(ticks))]
			wantArm(t, w, k, at, m.arm(k, at))
		case 6, 7:
			wantCancel(t, w, k, m.cancel(k))
		case 8:
			wantDrop(t, w, k.Peer, m.drop(k.Peer))
		case 9:
			now += uint64(r.Intn(4))
			wantTake(t, w, now, m.take(now))
		case 10:
			w = w.Copy()
		case 11:
			c := w.Copy()
			c.Take(now + 5)
			c.Drop(k.Peer)
			c.Arm(k, 1)
		}
		at, is := m.at(k)
		wantAt(t, w, k, at, is)
		wantAll(t, w, sorted(m))
	}
}

// The same about the limit: of many keys, where a wheel is full now and then.
func TestP13_5FullWalk(t *testing.T) {
	pool := keysOf(kinds, append(names, "more", "and-more", "x", "y", "x1", "y2", "y3", "x4", "x5", "x6", "x7"), fams)
	r := rand.New(rand.NewSource(7))
	w, l := full(t)
	m := model(l)
	refused := 0
	for range 3000 {
		k := pool[r.Intn(len(pool))]
		switch r.Intn(9) {
		case 0, 1, 2, 3, 4, 5:
			want := m.arm(k, 50)
			if want == api.ErrFull {
				refused++
			}
			wantArm(t, w, k, 50, want)
		case 6, 7:
			wantCancel(t, w, k, m.cancel(k))
		case 8:
			at := uint64(r.Intn(100))
			k = m[r.Intn(len(m))].Key
			wantArm(t, w, k, at, m.arm(k, at))
		}
		wantLen(t, w, len(m))
	}
	if refused < 100 {
		t.Errorf("the wheel was full %d times only", refused)
	}
	wantAll(t, w, sorted(m))
}
