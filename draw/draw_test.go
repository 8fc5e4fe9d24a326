package draw_test

import (
	"math"
	"math/rand"
	"slices"
	"testing"

	"herald/api"
	"herald/draw"
)

// turns are numbers of draws that came and went ahead: so the first one that waits stands at each place.
func turns() []int {
	var l []int
	for i := range most + 2 {
		l = append(l, i)
	}
	return append(l, 2*most-1, 2*most, 2*most+1, 300, 1000)
}

func TestP14_2Examples(t *testing.T) {
	d := draw.New()
	wantPush(t, d, 0, api.OK)
	wantPush(t, d, 25, api.OK)
	wantJitter(t, d, 100, 75)
	wantJitter(t, d, 0, 0)
	wantLeft(t, d, 1)
	wantJitter(t, d, 100, 100)
	wantJitter(t, d, 100, 100)

	d = draw.New()
	for range 64 {
		wantPush(t, d, 3, api.OK)
	}
	wantPush(t, d, 3, api.ErrFull)

	var none *draw.Draws
	wantPush(t, none, 1, api.ErrNil)
	wantJitter(t, none, 9, 9)
	wantLeft(t, none, 0)
	if none.Copy() != nil {
		t.Error("a copy of none")
	}
}

func TestP14_2New(t *testing.T) {
	d, e := draw.New(), draw.New()
	if d == nil || e == nil || d == e {
		t.Fatal("no draws of their own")
	}
	wantAll(t, d, nil)
	wantPush(t, d, 7, api.OK)
	wantAll(t, d, []uint32{7})
	wantAll(t, e, nil)
	wantAll(t, draw.New(), nil)
}

// Draws that no call made, in each call; nothing that is done to them changes that.
func TestP14_2NotThere(t *testing.T) {
	for _, d := range []*draw.Draws{nil, {}, new(draw.Draws)} {
		for range 70 {
			wantLeft(t, d, 0)
			for _, n := range numbers {
				wantPush(t, d, n, api.ErrNil)
			}
			wantLeft(t, d, 0)
			for _, base := range above {
				wantJitter(t, d, base, base)
			}
			for _, base := range notAbove {
				wantJitter(t, d, base, 0)
			}
			if c := d.Copy(); c != nil {
				t.Fatal("there is a copy")
			}
		}
	}
}

// Every number may be pushed, and is kept whole.
func TestP14_2EachNumber(t *testing.T) {
	for _, n := range numbers {
		d := draw.New()
		wantPush(t, d, n, api.OK)
		wantAll(t, d, []uint32{n})
		for _, base := range above {
			wantPush(t, d, n, api.OK)
			wantLeft(t, d, 2)
			wantJitter(t, d, base, reckon(base, n))
		}
		wantAll(t, d, []uint32{n})
	}
}

// One that is pushed stands behind all others, up to the last one that may wait.
func TestP14_2Behind(t *testing.T) {
	d := draw.New()
	for i, n := range some(most) {
		wantAll(t, d, some(i))
		wantPush(t, d, n, api.OK)
		wantLeft(t, d, i+1)
	}
	wantAll(t, d, some(most))
}

// A full one refuses all draws, and stays as it is, wherever its first one stands.
func TestP14_2Full(t *testing.T) {
	for _, turned := range turns() {
		d := waiting(t, turned, some(most))
		for _, n := range numbers {
			wantPush(t, d, n, api.ErrFull)
			wantLeft(t, d, most)
		}
		wantAll(t, d, some(most))
		wantUsed(t, d, some(most))
		pushAll(t, d, some(most))
		wantPush(t, d, 1, api.ErrFull)
		wantAll(t, d, some(most))
	}
}

// Where so many were used up, there is room for just as many.
func TestP14_2FullNoMore(t *testing.T) {
	for used := range most + 1 {
		d := waiting(t, 3*used, some(most))
		m := model(some(most))
		for range used {
			wantJitter(t, d, 100, m.jitter(100))
		}
		for i := range used {
			wantPush(t, d, uint32(900+i), m.push(uint32(900+i)))
		}
		wantLeft(t, d, most)
		wantPush(t, d, 1, api.ErrFull)
		wantAll(t, d, m)
	}
}

// In a full one a base that is not above 0 makes no room.
func TestP14_2FullStays(t *testing.T) {
	d := waiting(t, 9, some(most))
	for _, base := range notAbove {
		wantJitter(t, d, base, 0)
		wantPush(t, d, 1, api.ErrFull)
	}
	wantAll(t, d, some(most))
}

// Asking how many wait changes nothing.
func TestP14_2AskedOnly(t *testing.T) {
	for _, n := range []int{0, 1, 2, most - 1, most} {
		d := waiting(t, 40, some(n))
		for range 100 {
			wantLeft(t, d, n)
		}
		wantAll(t, d, some(n))
	}
}

// A copy has the same draws, wherever they stand and how many they are.
func TestP14_2Copy(t *testing.T) {
	for _, turned := range turns() {
		for _, n := range []int{0, 1, 2, 31, most - 1, most} {
			d := waiting(t, turned, some(n))
			c := d.Copy()
			if c == nil || c == d {
				t.Fatal("no copy of its own")
			}
			wantUsed(t, c, some(n))
			wantUsed(t, d, some(n))
		}
	}
}

// Whatever is done to a copy, or to the one that it was made of, the other one does not hear.
func TestP14_2CopyGoesItsWay(t *testing.T) {
	for i, do := range []func(d *draw.Draws){
		func(d *draw.Draws) {},
		func(d *draw.Draws) { d.Push(1000) },
		func(d *draw.Draws) { d.Jitter(100) },
		func(d *draw.Draws) { d.Jitter(100); d.Push(12) },
		func(d *draw.Draws) { d.Jitter(0); d.Jitter(-4) },
		func(d *draw.Draws) { useUp(d); pushMany(d, 64, 13) },
		func(d *draw.Draws) { pushMany(d, 64, 14); useUp(d); pushMany(d, 64, 15) },
		func(d *draw.Draws) { useUp(d) },
		func(d *draw.Draws) { d.Copy().Push(5); d.Copy().Jitter(100) },
	} {
		for _, n := range []int{0, 1, 20, most - 1, most} {
			start := waiting(t, 50, some(n))
			do(start)
			changed := parts(start)

			d := waiting(t, 50, some(n))
			c := d.Copy()
			do(c)
			wantAll(t, d, some(n))
			wantParts(t, i, c, changed)

			d = waiting(t, 50, some(n))
			c = d.Copy()
			do(d)
			wantAll(t, c, some(n))
			wantParts(t, i, d, changed)
		}
	}
}

func useUp(d *draw.Draws) {
	for range most {
		d.Jitter(100)
	}
}

func pushMany(d *draw.Draws, times int, n uint32) {
	for range times {
		d.Push(n)
	}
}

// parts uses draws up, and answers what came of them.
func parts(d *draw.Draws) []int {
	var l []int
	for range d.Left() {
		l = append(l, d.Jitter(100))
	}
	return l
}

func wantParts(t *testing.T, i int, d *draw.Draws, want []int) {
	t.Helper()
	if l := parts(d); !slices.Equal(l, want) {
		t.Errorf("%d: %v, want %v", i, l, want)
	}
}

// A copy of a copy, and one of draws of which none waits, take draws as any other.
func TestP14_2CopyOfCopy(t *testing.T) {
	d := draw.New()
	for i := range 200 {
		d = d.Copy()
		if d == nil {
			t.Fatal("there is no copy")
		}
		wantAll(t, d, nil)
		wantPush(t, d, uint32(i), api.OK)
		d = d.Copy()
		wantAll(t, d, []uint32{uint32(i)})
		wantJitter(t, d, 100, 75+i%26)
	}
}

// A base that is not above 0 uses no draw up.
func TestP14_3NotAbove(t *testing.T) {
	for _, n := range []int{0, 1, 2, most} {
		d := waiting(t, 30, some(n))
		for _, base := range notAbove {
			wantJitter(t, d, base, 0)
			wantLeft(t, d, n)
		}
		wantAll(t, d, some(n))
	}
}

// Each base above 0 uses just one draw up, the least ones, too.
func TestP14_3Above(t *testing.T) {
	for _, base := range above {
		d := waiting(t, 70, numbers)
		for i, n := range numbers {
			wantJitter(t, d, base, reckon(base, n))
			wantLeft(t, d, len(numbers)-1-i)
		}
		wantJitter(t, d, base, base)
	}
}

// Where none waits the base is told as it is, and nothing is used up of what comes then.
func TestP14_3NoneWaits(t *testing.T) {
	for _, d := range []*draw.Draws{draw.New(), waiting(t, 1, nil), waiting(t, 64, nil), waiting(t, 100, nil)} {
		for range 70 {
			for _, base := range above {
				wantJitter(t, d, base, base)
			}
			for _, base := range notAbove {
				wantJitter(t, d, base, 0)
			}
			wantLeft(t, d, 0)
		}
		pushAll(t, d, some(most))
		wantPush(t, d, 1, api.ErrFull)
		wantAll(t, d, some(most))
	}
}

// What Jitter answers is Of of the same.
func TestP14_3Of(t *testing.T) {
	for _, n := range numbers {
		for _, base := range append(above, notAbove...) {
			wantJitter(t, waiting(t, 1, []uint32{n}), base, draw.Of(base, n))
		}
	}
}

// Draws go round in all sizes of a group, so that the end of the array is gone by at each place.
func TestP14_4Rounds(t *testing.T) {
	for group := 1; group <= most; group++ {
		d, m := draw.New(), model{}
		next := uint32(group)
		for range 4*most/group + 5 {
			for range group {
				wantPush(t, d, next, m.push(next))
				next += 7
			}
			for range group {
				wantJitter(t, d, 100, m.jitter(100))
			}
			wantLeft(t, d, 0)
		}
	}
}

// The same with some that always wait.
func TestP14_4RoundsWithSome(t *testing.T) {
	for wait := range most {
		d, m := draw.New(), model(some(wait))
		pushAll(t, d, m)
		for i := range 3 * most {
			n := uint32(i)*1009 + 3
			wantPush(t, d, n, m.push(n))
			wantJitter(t, d, 100, m.jitter(100))
			wantLeft(t, d, wait)
		}
		wantAll(t, d, m)
	}
}

// Each draw is used once: of 26 unlike ones each part comes once, in the order in which they were pushed.
func TestP14_4EachOnce(t *testing.T) {
	for _, turned := range turns() {
		r := rand.New(rand.NewSource(int64(turned)))
		order := r.Perm(26)
		d := waiting(t, turned, nil)
		for _, n := range order {
			wantPush(t, d, uint32(n)+26*uint32(r.Intn(1000)), api.OK)
		}
		for i, n := range order {
			wantLeft(t, d, 26-i)
			wantJitter(t, d, 100, 75+n)
		}
		wantLeft(t, d, 0)
		wantJitter(t, d, 100, 100)
	}
}

// Two that are handed the same answer the same.
func TestP14_4Same(t *testing.T) {
	r := rand.New(rand.NewSource(5))
	d, e := draw.New(), draw.New()
	for range 5000 {
		n, base := r.Uint32(), r.Intn(300)-20
		if r.Intn(2) == 0 {
			wantPush(t, d, n, e.Push(n))
		} else {
			wantJitter(t, d, base, e.Jitter(base))
		}
		wantLeft(t, d, e.Left())
	}
}

// Long ways of all calls, held against the model: some mostly full, some mostly without draws.
func TestP14_4Walks(t *testing.T) {
	for seed := range int64(60) {
		full, bare := walk(t, rand.New(rand.NewSource(seed)), 35+int(seed%4)*10, 500)
		if t.Failed() {
			t.Fatalf("walk %d", seed)
		}
		if seed%4 == 3 && full == 0 || seed%4 == 0 && bare == 0 {
			t.Errorf("walk %d: full %d times, bare %d times", seed, full, bare)
		}
	}
}

// walk pushes at so many steps of a hundred, and tells how often no draw could be pushed, and none could be used up.
func walk(t *testing.T, r *rand.Rand, pushes, steps int) (full, bare int) {
	d, m := draw.New(), model{}
	for range steps {
		n, base := r.Uint32()>>r.Intn(32), 1+r.Intn(1000)
		switch k := r.Intn(100); {
		case k < pushes:
			want := m.push(n)
			if want == api.ErrFull {
				full++
			}
			wantPush(t, d, n, want)
		case k < 90:
			if len(m) == 0 {
				bare++
			}
			wantJitter(t, d, base, m.jitter(base))
		case k < 94:
			wantJitter(t, d, -base, m.jitter(-base))
		case k < 96:
			base = math.MaxInt - base
			wantJitter(t, d, base, m.jitter(base))
		case k < 98:
			d = d.Copy()
		default:
			c := d.Copy()
			useUp(c)
			pushMany(c, most, n)
		}
		wantAll(t, d, m)
	}
	return full, bare
}
