package frame_test

import (
	"math/rand"
	"slices"
	"strings"
	"testing"

	"herald/api"
	"herald/frame"
)

func TestP9_3Examples(t *testing.T) {
	for _, c := range []struct {
		kind int
		body string
		want string
		err  api.Errno
	}{
		{api.KindKeep, "", keep, api.OK},
		{api.KindKeep, "a", "", api.ErrArg},
		{api.KindOpen, some(9), "", api.ErrArg},
		{api.KindUpdate, some(4078), "", api.ErrLong},
		{6, "", "", api.ErrArg},
	} {
		if got, err := frame.Make(api.Frame{Kind: c.kind, Body: c.body}); got != c.want || err != c.err {
			t.Errorf("Make(%d, %d bytes): %x, %d", c.kind, len(c.body), got, err)
		}
	}
}

func TestP9_3ByHand(t *testing.T) {
	for _, c := range []struct {
		kind int
		body string
		tail string
	}{
		{api.KindOpen, raw("04 fde8 00b4 0a000001 00"), "001d 01 04 fde8 00b4 0a000001 00"},
		{api.KindUpdate, raw("0000 0000"), "0017 02 00000000"},
		{api.KindNote, raw("06 02"), "0015 03 0602"},
		{api.KindKeep, "", "0013 04"},
		{api.KindRefresh, raw("0001 00 01"), "0017 05 00010001"},
	} {
		got, err := frame.Make(api.Frame{Kind: c.kind, Body: c.body})
		if want := raw(strings.Repeat("ff", 16) + c.tail); got != want || err != api.OK {
			t.Errorf("Make(%d, %x): %x, %d, want %x", c.kind, c.body, got, err, want)
		}
	}
}

// Each kind with all lengths of a body, up to some that are too long.
func TestP9_3EachLength(t *testing.T) {
	body := some(4200)
	for _, kind := range kinds {
		for n := range len(body) + 1 {
			want, must := "", api.ErrArg
			switch {
			case 19+n > 4096:
				must = api.ErrLong
			case 19+n >= spans[kind].least && 19+n <= spans[kind].most:
				want, must = message(kind, 19+n), api.OK
			}
			if got, err := frame.Make(api.Frame{Kind: kind, Body: body[:n]}); got != want || err != must {
				t.Fatalf("Make(%d, %d bytes): %s, %d, want %s, %d", kind, n, brief(got), err, brief(want), must)
			}
		}
	}
}

// A kind that is none is told ahead of a body that is too long.
func TestP9_3NoKind(t *testing.T) {
	for _, kind := range none {
		for _, n := range []int{0, 2, 4, 10, 4077, 4078, 5000, 1 << 17} {
			if got, err := frame.Make(api.Frame{Kind: kind, Body: some(n)}); got != "" || err != api.ErrArg {
				t.Errorf("Make(%d, %d bytes): %s, %d", kind, n, brief(got), err)
			}
		}
	}
}

// A body that is too long is told ahead of a length that is none of the kind: lengths whose lower 16 bits would do are too long, too.
func TestP9_3Long(t *testing.T) {
	for _, kind := range kinds {
		for _, n := range []int{4078, 4079, 5000, 1<<16 - 19, 1 << 16, 1<<16 + 4, 1<<16 + 10, 1 << 20} {
			if got, err := frame.Make(api.Frame{Kind: kind, Body: some(n)}); got != "" || err != api.ErrLong {
				t.Errorf("Make(%d, %d bytes): %s, %d", kind, n, brief(got), err)
			}
		}
	}
}

// What Make lays, one behind the other, is told as those frames, in pieces of any size.
func TestP9_5Back(t *testing.T) {
	r := rand.New(rand.NewSource(95))
	for range 500 {
		s := ""
		var want []api.Frame
		for range r.Intn(12) {
			kind := 1 + r.Intn(5)
			span := spans[kind]
			m := api.Frame{Kind: kind, Body: some(span.least - 19 + r.Intn(span.most-span.least+1))}
			b, err := frame.Make(m)
			if err != api.OK {
				t.Fatalf("Make(%s): %d", brief(m), err)
			}
			s += b
			want = append(want, m)
		}
		for _, size := range []int{1 + r.Intn(30), 1 + r.Intn(6000), len(s) + 1} {
			if got := pour(frame.New(), by(s, size)); !same(got, told{want, api.Verdict{}, 0}) {
				t.Fatalf("%d frames by %d bytes: %s, want %s", len(want), size, brief(got), brief(want))
			}
		}
	}
}

// Each length that a kind may have.
func TestP9_5EachLength(t *testing.T) {
	f := frame.New()
	for _, kind := range kinds {
		for length := spans[kind].least; length <= spans[kind].most; length++ {
			m := framed(kind, length)
			b, err := frame.Make(m)
			if got, v := f.Put(b); err != api.OK || !slices.Equal(got, []api.Frame{m}) || v != (api.Verdict{}) || f.Left() != 0 {
				t.Fatalf("kind %d, %d bytes: %d, %s, %v, %d are left", kind, length, err, brief(got), v, f.Left())
			}
		}
	}
}

// What is told is laid as it came.
func TestP9_5LaidAgain(t *testing.T) {
	for _, s := range append(good(), long()...) {
		f := frame.New()
		frames, _ := f.Put(s)
		laid := ""
		for _, m := range frames {
			b, _ := frame.Make(m)
			laid += b
		}
		if laid != s[:len(s)-f.Left()] {
			t.Errorf("%s: %s", brief(s), brief(laid))
		}
	}
}
