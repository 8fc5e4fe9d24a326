package open_test

import (
	"slices"
	"testing"

	"herald/api"
	"herald/open"
)

// wantEncode: Check and Encode of an open, held against the model.
func wantEncode(t *testing.T, o api.Open) {
	t.Helper()
	want, wantErr := "", api.ErrArg
	if may(o) {
		want, wantErr = bodyOf(o), api.OK
	}
	if err := open.Check(o); err != wantErr {
		t.Errorf("Check(%+v) = %d, not %d", o, err, wantErr)
	}
	if s, err := open.Encode(o); s != want || err != wantErr {
		t.Errorf("Encode(%+v) = %x, %d, not %x, %d", o, s, err, want, wantErr)
	}
}

func TestP10_1Examples(t *testing.T) {
	if s, err := open.Encode(small()); s != smallBody || err != api.OK {
		t.Errorf("the first one: %x, %d", s, err)
	}
	o := with(small(), func(o *api.Open) { o.AS, o.Four = 70000, true })
	s, err := open.Encode(o)
	if want := raw("04 5ba0 005a 0a000001 0e 02 0c 01 04 0001 00 01 41 04 00011170"); s != want || err != api.OK {
		t.Errorf("of 70000: %x, %d, not %x", s, err, want)
	}
}

// TestP10_1ByHand: bodies as they are written out here.
func TestP10_1ByHand(t *testing.T) {
	for _, c := range []struct {
		o    api.Open
		want string
	}{
		{full(), "04 5ba0 ffff ffffffff 56 02 54" +
			"01 04 0001 00 01  01 04 0002 00 01  01 04 0001 00 04  01 04 0001 00 80  01 04 0002 00 80" +
			"02 00" +
			"40 16 8fff 0001 01 80 0002 01 00 0001 04 80 0001 80 00 0002 80 80" +
			"41 04 00011170" +
			"45 14 0001 01 03 0002 01 02 0001 04 01 0001 80 02 0002 80 03"},
		{api.Open{AS: 23456, Hold: 0, Id: 1, Fams: []int{api.V6}}, "04 5ba0 0000 00000001 08 02 06 01 04 0002 00 01"},
		{api.Open{AS: 23456, Hold: 3, Id: 1, Fams: []int{api.L4}, Four: true}, "04 5ba0 0003 00000001 0e 02 0c 01 04 0001 00 04 41 04 00005ba0"},
		{api.Open{AS: 65535, Hold: 256, Id: 1 << 31, Fams: []int{api.Vpn4}, Four: true}, "04 ffff 0100 80000000 0e 02 0c 01 04 0001 00 80 41 04 0000ffff"},
		{api.Open{AS: 65535, Hold: 255, Id: 256, Fams: []int{api.Vpn6}, Refresh: true}, "04 ffff 00ff 00000100 0a 02 08 01 04 0002 00 80 02 00"},
		{api.Open{AS: 65536, Hold: 255, Id: 256, Fams: []int{api.V4}, Four: true}, "04 5ba0 00ff 00000100 0e 02 0c 01 04 0001 00 01 41 04 00010000"},
		{api.Open{AS: 256, Hold: 3, Id: 1, Fams: []int{api.V4}, HasGR: true}, "04 0100 0003 00000001 0c 02 0a 01 04 0001 00 01 40 02 0000"},
		{api.Open{AS: 256, Hold: 3, Id: 1, Fams: []int{api.V4}, HasGR: true, Again: true, Time: 1}, "04 0100 0003 00000001 0c 02 0a 01 04 0001 00 01 40 02 8001"},
		{api.Open{AS: 256, Hold: 3, Id: 1, Fams: []int{api.V4}, HasGR: true, Time: 4095, Kept: []api.Restart{{Fam: api.L4}}}, "04 0100 0003 00000001 10 02 0e 01 04 0001 00 01 40 06 0fff 0001 04 00"},
		{api.Open{AS: 256, Hold: 3, Id: 1, Fams: []int{api.V4}, Adds: []api.Add{{Fam: api.Vpn6, Take: true}}}, "04 0100 0003 00000001 0e 02 0c 01 04 0001 00 01 45 04 0002 80 01"},
	} {
		if s, err := open.Encode(c.o); s != raw(c.want) || err != api.OK {
			t.Errorf("Encode(%+v) = %x, %d, not %s", c.o, s, err, c.want)
		}
		wantEncode(t, c.o)
	}
}

func TestP10_1MayBe(t *testing.T) {
	for _, o := range opens() {
		if !may(o) {
			t.Fatalf("the tests' own open may not be: %+v", o)
		}
		wantEncode(t, o)
	}
}

func TestP10_1MayNotBe(t *testing.T) {
	for _, o := range wrongs() {
		if may(o) {
			t.Fatalf("the tests' own open may be: %+v", o)
		}
		wantEncode(t, o)
	}
}

func TestP10_1AS(t *testing.T) {
	for _, as := range append([]uint32{0}, edges...) {
		for _, four := range []bool{false, true} {
			o := with(small(), func(o *api.Open) { o.AS, o.Four = as, four })
			want := api.OK
			if as == 0 || as > 65535 && !four {
				want = api.ErrArg
			}
			if err := open.Check(o); err != want {
				t.Errorf("the AS %d, four bytes %t: %d", as, four, err)
			}
			wantEncode(t, o)
		}
	}
}

func TestP10_1Hold(t *testing.T) {
	for hold := -10; hold <= 65546; hold++ {
		want := api.OK
		if hold < 0 || hold == 1 || hold == 2 || hold > 65535 {
			want = api.ErrArg
		}
		if err := open.Check(with(small(), func(o *api.Open) { o.Hold = hold })); err != want {
			t.Errorf("Hold %d: %d", hold, err)
		}
	}
	for _, hold := range []int{0, 1, 2, 3, 255, 256, 65535, 65536, 1 << 32, -1} {
		wantEncode(t, with(small(), func(o *api.Open) { o.Hold = hold }))
	}
}

func TestP10_1Id(t *testing.T) {
	for _, id := range append([]uint32{0}, edges...) {
		wantEncode(t, with(small(), func(o *api.Open) { o.Id = id }))
	}
}

// lists are all lists of at most three numbers from -1 to 7.
func lists() [][]int {
	all := [][]int{nil, {}}
	for a := -1; a <= 7; a++ {
		all = append(all, []int{a})
		for b := -1; b <= 7; b++ {
			all = append(all, []int{a, b})
			for c := -1; c <= 7; c++ {
				all = append(all, []int{a, b, c})
			}
		}
	}
	return all
}

func TestP10_1Fams(t *testing.T) {
	for _, l := range lists() {
		wantEncode(t, with(small(), func(o *api.Open) { o.Fams = l }))
	}
	wantEncode(t, with(small(), func(o *api.Open) { o.Fams = slices.Repeat([]int{1}, 1<<16) }))
}

func TestP10_1Adds(t *testing.T) {
	for _, l := range lists() {
		for ways := range 1 << (2 * len(l)) {
			var adds []api.Add
			for i, f := range l {
				adds = append(adds, api.Add{Fam: f, Send: ways>>(2*i)&1 != 0, Take: ways>>(2*i+1)&1 != 0})
			}
			wantEncode(t, with(small(), func(o *api.Open) { o.Adds = adds }))
		}
	}
}

func TestP10_1Restart(t *testing.T) {
	for _, l := range lists() {
		for flags := range 1 << (2 + len(l)) {
			var kept []api.Restart
			for i, f := range l {
				kept = append(kept, api.Restart{Fam: f, Kept: flags>>(2+i)&1 != 0})
			}
			wantEncode(t, with(small(), func(o *api.Open) { o.HasGR, o.Again, o.Kept = flags&1 != 0, flags&2 != 0, kept }))
		}
	}
	for time := -10; time <= 4106; time++ {
		for flags := range 4 {
			wantEncode(t, with(small(), func(o *api.Open) { o.HasGR, o.Again, o.Time = flags&1 != 0, flags&2 != 0, time }))
		}
	}
}

func TestP10_3Examples(t *testing.T) {
	o := api.Open{AS: 1, Id: 7}
	for _, c := range []struct {
		as, own uint32
		want    api.Verdict
	}{{2, 9, reset(2)}, {1, 7, reset(3)}, {0, 9, fine}} {
		if v := open.Accept(o, c.as, c.own); v != c.want {
			t.Errorf("Accept(%d, %d) = %v, not %v", c.as, c.own, v, c.want)
		}
	}
}

// TestP10_3Any: of any open, also of those that may not be; of two things that are wrong the AS is told.
func TestP10_3Any(t *testing.T) {
	numbers := append([]uint32{0}, edges...)
	for _, o := range append(wrongs(), small(), full(), api.Open{}, api.Open{AS: 5}, api.Open{Id: 5}) {
		for _, as := range append(numbers, o.AS) {
			for _, own := range append(numbers, o.Id) {
				want := fine
				if own == o.Id {
					want = reset(3)
				}
				if as != 0 && as != o.AS {
					want = reset(2)
				}
				if v := open.Accept(o, as, own); v != want {
					t.Errorf("Accept(%+v, %d, %d) = %v, not %v", o, as, own, v, want)
				}
			}
		}
	}
}

func TestP10_3ByHand(t *testing.T) {
	for _, c := range []struct {
		o       api.Open
		as, own uint32
		want    api.Verdict
	}{
		{api.Open{}, 0, 0, reset(3)},
		{api.Open{}, 1, 0, reset(2)},
		{api.Open{}, 0, 1, fine},
		{api.Open{AS: 1, Id: 7}, 2, 7, reset(2)},
		{api.Open{AS: 1, Id: 7}, 0, 7, reset(3)},
		{api.Open{AS: 1, Id: 7}, 1, 8, fine},
		{api.Open{AS: 70000, Id: 7, Four: true}, 23456, 8, reset(2)},
		{api.Open{AS: 70000, Id: 7, Four: true}, 70000, 0, fine},
		{api.Open{AS: 65537, Id: 7}, 1, 8, reset(2)},
	} {
		if v := open.Accept(c.o, c.as, c.own); v != c.want {
			t.Errorf("Accept(%+v, %d, %d) = %v, not %v", c.o, c.as, c.own, v, c.want)
		}
	}
}
