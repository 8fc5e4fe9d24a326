package comm_test

import (
	"math"
	"slices"
	"testing"

	"herald/api"
	"herald/comm"
)

func wantNums(t *testing.T, what string, got, want []uint32) {
	t.Helper()
	if !slices.Equal(got, want) {
		t.Errorf("%s: %s, not %s", what, brief(got), brief(want))
	}
}

func wantWith(t *testing.T, l []uint32, c uint32) {
	t.Helper()
	want, wantErr := normed(append(slices.Clone(l), c)), api.OK
	if len(want) > 64 {
		want, wantErr = nil, api.ErrFull
	}
	got, err := comm.With(l, c)
	if err != wantErr || !slices.Equal(got, want) {
		t.Errorf("With(%s, %d): %s, %d, not %s, %d", brief(l), c, brief(got), err, brief(want), wantErr)
	}
}

func TestP5_1Examples(t *testing.T) {
	wantNums(t, "Norm", comm.Norm(nums(3, 1, 3)), nums(1, 3))
	got, err := comm.With(nums(1, 3), 2)
	wantNums(t, "With", got, nums(1, 2, 3))
	if err != api.OK {
		t.Errorf("With: %d", err)
	}
	wantNums(t, "Without", comm.Without(nums(1, 2, 3), nums(2, 9)), nums(1, 3))
	if comm.Has(nums(1, 3), 2) {
		t.Error("Has(1 3, 2)")
	}
}

// TestP5_1AllShort asks all short lists, whatever their order.
func TestP5_1AllShort(t *testing.T) {
	of := nums(0, 1, 7, math.MaxUint32)
	short := lists(3, of...)
	for _, l := range lists(5, of...) {
		wantNums(t, "Norm of "+brief(l), comm.Norm(l), normed(l))
		for _, c := range nums(0, 1, 2, 7, 8, math.MaxUint32-1, math.MaxUint32) {
			wantWith(t, l, c)
			if has := comm.Has(l, c); has != (len(less(nums(c), l)) == 0) {
				t.Errorf("Has(%d, %d): %t", l, c, has)
			}
		}
		for _, m := range short {
			wantNums(t, "Without of "+brief(l)+", "+brief(m), comm.Without(l, m), less(l, m))
		}
	}
}

// TestP5_1Edges asks for numbers near the ends, in lists that have all of them but one.
func TestP5_1Edges(t *testing.T) {
	for i, c := range edges {
		others := slices.Delete(slices.Clone(edges), i, i+1)
		for _, l := range [][]uint32{others, mixed(others), slices.Repeat(mixed(others), 3)} {
			if comm.Has(l, c) {
				t.Errorf("Has: %d", c)
			}
			wantWith(t, l, c)
			wantNums(t, "Norm", comm.Norm(l), others)
			wantNums(t, "Without all", comm.Without(l, mixed(edges)), nil)
			wantNums(t, "Without that", comm.Without(l, nums(c)), others)
		}
		for _, l := range [][]uint32{edges, mixed(edges), slices.Repeat(mixed(edges), 3)} {
			if !comm.Has(l, c) {
				t.Errorf("Has: not %d", c)
			}
			wantWith(t, l, c)
			wantNums(t, "Norm", comm.Norm(l), edges)
			wantNums(t, "Without that", comm.Without(l, nums(c, c)), others)
			wantNums(t, "Without the others", comm.Without(l, mixed(others)), nums(c))
		}
	}
}

// TestP5_1Many asks lists of more than there may be in an attribute: they are no fault of themselves.
func TestP5_1Many(t *testing.T) {
	for _, n := range []int{63, 64, 65, 66, 127, 128, 256, 1000, 70000} {
		l := plain.count(n)
		wantNums(t, "Norm", comm.Norm(mixed(l)), normed(l))
		wantNums(t, "Norm of twice", comm.Norm(mixed(slices.Repeat(l, 2))), normed(l))
		wantNums(t, "Without none", comm.Without(mixed(l), nil), normed(l))
		wantNums(t, "Without some", comm.Without(mixed(l), mixed(l[n/3:n-1])), normed(append(slices.Clone(l[:n/3]), l[n-1])))
		wantNums(t, "Without all", comm.Without(mixed(l), mixed(slices.Repeat(l, 2))), nil)
		if !comm.Has(l, l[n-1]) || comm.Has(l[:n-1], l[n-1]) {
			t.Errorf("Has of %d", n)
		}
	}
	wantNums(t, "Norm of one often", comm.Norm(make([]uint32, 100000)), nums(0))
}

// TestP5_1Full puts one more into lists that are nearly full, full, and more than that.
func TestP5_1Full(t *testing.T) {
	for _, n := range []int{0, 1, 62, 63, 64, 65, 66, 128, 1000} {
		all := plain.count(n + 1)
		for _, at := range []int{0, n / 2, n} {
			c := all[at]
			rest := slices.Delete(slices.Clone(all), at, at+1)
			for _, l := range [][]uint32{rest, mixed(rest), slices.Repeat(mixed(rest), 2), all, mixed(all), slices.Repeat(mixed(all), 2)} {
				wantWith(t, l, c)
			}
		}
	}
	full := plain.count(64)
	if got, err := comm.With(full, math.MaxUint32); err != api.ErrFull || got != nil {
		t.Errorf("one too many: %s, %d", brief(got), err)
	}
	for _, c := range full {
		if got, err := comm.With(slices.Repeat(full, 2), c); err != api.OK || !slices.Equal(got, full) {
			t.Errorf("%d, which is there: %s, %d", c, brief(got), err)
		}
		if got, err := comm.With(append(slices.Clone(full), math.MaxUint32), c); err != api.ErrFull || got != nil {
			t.Errorf("%d, which is in too many: %s, %d", c, brief(got), err)
		}
	}
}

func TestP5_3Targets(t *testing.T) {
	if x := comm.Target(65000, 7); x != 0x0002fde800000007 {
		t.Errorf("Target: %x", x)
	}
	for _, as := range []uint16{0, 1, 255, 256, 23456, 65000, 65534, 65535} {
		for _, n := range edges {
			x := comm.Target(as, n)
			if x>>48 != 2 || uint16(x>>32) != as || uint32(x) != n {
				t.Errorf("Target(%d, %d): %x", as, n, x)
			}
			if !comm.IsTarget(x) {
				t.Errorf("IsTarget(%x)", x)
			}
			for bit := range 16 {
				if comm.IsTarget(x ^ 1<<(48+bit)) {
					t.Errorf("IsTarget(%x)", x^1<<(48+bit))
				}
			}
			for bit := range 48 {
				if !comm.IsTarget(x ^ 1<<bit) {
					t.Errorf("not IsTarget(%x)", x^1<<bit)
				}
			}
		}
	}
	for _, x := range exts(0, 2, 1<<48, 1<<49-1, 3<<48, 0x0003fde800000007, 0x0102fde800000007, 0x0200fde800000007, 0x0202000000000000, 0x4002fde800000007, 0x8002000000000000, 0x0000000200000000, 0x0000000000000002, math.MaxUint64) {
		if comm.IsTarget(x) {
			t.Errorf("IsTarget(%x)", x)
		}
	}
	for high := range uint64(1 << 16) {
		for _, low := range exts(0, 0xfde800000007, 1<<48-1) {
			if is := comm.IsTarget(high<<48 | low); is != (high == 2) {
				t.Errorf("IsTarget(%x): %t", high<<48|low, is)
			}
		}
	}
}

func TestP5_3Meet(t *testing.T) {
	if !comm.Meet(exts(1, 5), exts(5, 9)) {
		t.Error("Meet(1 5, 5 9)")
	}
	all := lists(4, exts(0, 1, 1<<32|1, math.MaxUint64)...)
	for _, a := range all {
		for _, b := range all {
			want := false
			for _, x := range a {
				want = want || slices.Contains(b, x)
			}
			if comm.Meet(a, b) != want {
				t.Errorf("Meet(%x, %x): %t", a, b, !want)
			}
		}
	}
	if comm.Meet([]uint64{}, nil) || comm.Meet(nil, nil) {
		t.Error("Meet of nothing")
	}
}

// TestP5_3MeetMany: of long lists just one is in both, wherever it stands, or none is.
func TestP5_3MeetMany(t *testing.T) {
	for _, n := range []int{1, 64, 65, 1000} {
		a, b := make([]uint64, n), make([]uint64, n)
		for i := range n {
			a[i], b[i] = uint64(2*(n-i))<<32, uint64(2*i)<<32|1
		}
		if comm.Meet(a, b) || comm.Meet(b, a) {
			t.Errorf("%d of each: none is in both", n)
		}
		for _, at := range []int{0, n / 2, n - 1} {
			c := slices.Clone(b)
			c[at] = a[n-1-at]
			if !comm.Meet(a, c) || !comm.Meet(c, a) {
				t.Errorf("%d of each: that at %d is in both", n, at)
			}
		}
	}
}

// TestP5_5Sets: With and Without are those of sets.
func TestP5_5Sets(t *testing.T) {
	for _, l := range append(lists(4, nums(0, 3, 9, math.MaxUint32)...), plain.count(63), mixed(plain.count(64)), edges) {
		for _, c := range append(nums(4, 8), edges...) {
			with, err := comm.With(l, c)
			if err != api.OK {
				if len(normed(l)) < 64 || comm.Has(l, c) || with != nil {
					t.Errorf("With(%s, %d): %d", brief(l), c, err)
				}
				continue
			}
			without := comm.Without(with, nums(c))
			if !comm.Has(with, c) || comm.Has(without, c) {
				t.Errorf("%d: Has of %s, of %s", c, brief(with), brief(without))
			}
			for _, x := range append(nums(4, 8), edges...) {
				if x != c && (comm.Has(with, x) != comm.Has(l, x) || comm.Has(without, x) != comm.Has(l, x)) {
					t.Errorf("%d changes %d: %s, %s of %s", c, x, brief(with), brief(without), brief(l))
				}
			}
			again, err := comm.With(with, c)
			wantNums(t, "With twice", again, with)
			wantNums(t, "Norm of it", comm.Norm(with), with)
			if err != api.OK {
				t.Errorf("With twice: %d", err)
			}
		}
		wantNums(t, "Norm twice", comm.Norm(comm.Norm(l)), comm.Norm(l))
	}
}

// roomy lays a list with room behind its end, filled with what no list has, and tells whether all of it is as it was.
func roomy[T comparable](l []T, mark T) ([]T, func() bool) {
	wide := append(slices.Clone(l), mark, mark, mark)
	before := slices.Clone(wide)
	return wide[:len(l)], func() bool { return slices.Equal(wide, before) }
}

// spoil writes over all that an answer holds, the room behind its end too.
func spoil[T any](l []T, with T) {
	l = l[:cap(l)]
	for i := range l {
		l[i] = with
	}
}

// TestMemory (R5): what is handed in stays as it is, and shares nothing with what is answered.
func TestMemory(t *testing.T) {
	calls := map[string]func(l []uint32){
		"Norm":         func(l []uint32) { spoil(comm.Norm(l), 5) },
		"With":         func(l []uint32) { got, _ := comm.With(l, 4); spoil(got, 5) },
		"With the own": func(l []uint32) { got, _ := comm.With(l, 1); spoil(got, 5) },
		"Without":      func(l []uint32) { spoil(comm.Without(l, nil), 5); spoil(comm.Without(l, nums(1)), 5) },
		"Without it":   func(l []uint32) { spoil(comm.Without(nums(9, 1, 3), l), 5); comm.Without(l, l) },
		"others":       func(l []uint32) { comm.Has(l, 1); comm.Encode(l) },
	}
	for _, l := range [][]uint32{nil, {}, {1}, {1, 2, 3}, {3, 1, 3}, {9, 8, 7, 1}, plain.count(64), mixed(plain.count(64)), plain.count(65)} {
		for name, call := range calls {
			wide, stays := roomy(l, 0xdeadbeef)
			call(wide)
			if !stays() {
				t.Errorf("%s changes %s", name, brief(l))
			}
		}
	}
	for _, l := range [][]uint64{nil, {1}, {3, 1, 3}, ext.count(64), mixed(ext.count(65))} {
		wide, stays := roomy(l, 0xdeadbeef)
		comm.EncodeExts(wide)
		comm.Meet(wide, exts(7, 1))
		comm.Meet(exts(7, 1), wide)
		if !stays() {
			t.Errorf("changed: %s", brief(l))
		}
	}
	for _, l := range [][]api.Large{nil, {{B: 1}}, {{A: 2}, {A: 1}}, large.count(64), mixed(large.count(65))} {
		wide, stays := roomy(l, api.Large{Global: 0xdeadbeef})
		comm.EncodeLarges(wide)
		if !stays() {
			t.Errorf("changed: %s", brief(l))
		}
	}
}

// TestAnswersApart (R5, R6): an answer that is written over changes no later one.
func TestAnswersApart(t *testing.T) {
	for range 3 {
		a := comm.Norm(nums(2, 1))
		b, _ := comm.With(nums(2), 1)
		c := comm.Without(nums(2, 1, 3), nums(3))
		d, _ := comm.Decode("\x00\x00\x00\x02\x00\x00\x00\x01")
		for _, l := range [][]uint32{a, b, c, d} {
			wantNums(t, "an answer", l, nums(1, 2))
			spoil(l, 5)
		}
		e, _ := comm.DecodeExts("\x00\x00\x00\x00\x00\x00\x00\x02")
		f, _ := comm.DecodeLarges("\x00\x00\x00\x00\x00\x00\x00\x02\x00\x00\x00\x00")
		if !slices.Equal(e, exts(2)) || !slices.Equal(f, []api.Large{{A: 2}}) {
			t.Errorf("answers: %d, %v", e, f)
		}
		spoil(e, 5)
		spoil(f, api.Large{B: 5})
	}
}
