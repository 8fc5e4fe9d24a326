package msg_test

import (
	"math"
	"strings"
	"testing"

	"herald/api"
	"herald/frame"
	"herald/msg"
)

func wantLeast(t *testing.T, kind, want int, must bool) {
	t.Helper()
	if n, is := msg.Least(kind); n != want || is != must {
		t.Errorf("Least(%d): %d, %t, want %d, %t", kind, n, is, want, must)
	}
}

func wantSize(t *testing.T, kind, body int, want api.Verdict) {
	t.Helper()
	if v := msg.Size(kind, body); v != want {
		t.Errorf("Size(%d, %d): %v, want %v", kind, body, v, want)
	}
}

func wantTold(t *testing.T, v api.Verdict, want api.Note, must bool) {
	t.Helper()
	if n, is := msg.Told(v); n != want || is != must {
		t.Errorf("Told(%v): %s, %t, want %s, %t", v, brief(n), is, brief(want), must)
	}
}

func TestP12_1Examples(t *testing.T) {
	wantLeast(t, api.KindOpen, 10, true)
	wantLeast(t, 0, 0, false)
	wantSize(t, api.KindKeep, 1, reset(1, 2))
	wantSize(t, api.KindUpdate, 3, reset(1, 2))
	wantSize(t, 9, 0, reset(1, 3))
	wantSize(t, api.KindNote, 4077, api.Verdict{})
}

func TestP12_1Least(t *testing.T) {
	for kind, want := range map[int]int{api.KindOpen: 10, api.KindUpdate: 4, api.KindNote: 2, api.KindKeep: 0, api.KindRefresh: 4} {
		wantLeast(t, kind, want, true)
	}
	for _, kind := range none {
		wantLeast(t, kind, 0, false)
	}
	for kind := -300; kind < 300; kind++ {
		span, is := spans[kind]
		wantLeast(t, kind, span.least, is)
	}
}

// Of each kind the edges by hand, not by the model.
func TestP12_1Edges(t *testing.T) {
	for _, c := range []struct {
		kind      int
		fine, bad []int
	}{
		{api.KindOpen, []int{10, 11, 4076, 4077}, []int{9, 4078, 0, -1, -10, math.MinInt, math.MaxInt}},
		{api.KindUpdate, []int{4, 5, 4076, 4077}, []int{3, 4078, 0, -1, -4, math.MinInt, math.MaxInt}},
		{api.KindNote, []int{2, 3, 4076, 4077}, []int{1, 4078, 0, -1, -2, math.MinInt, math.MaxInt}},
		{api.KindKeep, []int{0}, []int{-1, 1, 2, 4, 4077, 4078, math.MinInt, math.MaxInt}},
		{api.KindRefresh, []int{4}, []int{3, 5, 0, -1, -4, 8, 4077, 4078, math.MinInt, math.MaxInt}},
	} {
		for _, body := range c.fine {
			wantSize(t, c.kind, body, api.Verdict{Action: api.Fine})
		}
		for _, body := range c.bad {
			wantSize(t, c.kind, body, api.Verdict{Action: api.Reset, Code: 1, Sub: 2})
		}
	}
}

func TestP12_1EachSize(t *testing.T) {
	for _, kind := range kinds {
		for body := -300; body < 1<<13; body++ {
			if v := msg.Size(kind, body); v != sized(kind, body) {
				t.Fatalf("Size(%d, %d): %v, want %v", kind, body, v, sized(kind, body))
			}
		}
		for _, body := range counts {
			wantSize(t, kind, body, sized(kind, body))
		}
	}
}

// What is no kind is told ahead of a size that no body has.
func TestP12_1NoKind(t *testing.T) {
	for _, kind := range none {
		for _, body := range counts {
			wantSize(t, kind, body, reset(1, 3))
		}
	}
}

// A body of just the least bytes is fine, one of fewer is not.
func TestP12_1SizeOfLeast(t *testing.T) {
	for _, kind := range kinds {
		least, _ := msg.Least(kind)
		wantSize(t, kind, least, api.Verdict{})
		wantSize(t, kind, least-1, reset(1, 2))
	}
}

// Sizes that are fine are just those of which a message can be made.
func TestP12_1AsMade(t *testing.T) {
	body := strings.Repeat("\x01", 4200)
	for _, kind := range append(kinds, 0, 6, -1) {
		for n := range len(body) + 1 {
			_, err := frame.Make(api.Frame{Kind: kind, Body: body[:n]})
			if v := msg.Size(kind, n); (v.Action == api.Fine) != (err == api.OK) {
				t.Fatalf("Size(%d, %d): %v, but Make: %d", kind, n, v, err)
			}
		}
	}
}

// What was asked ahead, and answers that are changed, change nothing of later ones.
func TestP12_1Again(t *testing.T) {
	for range 3 {
		for kind := -2; kind < 9; kind++ {
			span, is := spans[kind]
			wantLeast(t, kind, span.least, is)
			v := msg.Size(kind, 3)
			v.Action, v.Code, v.Sub = 7, 7, 7
			wantSize(t, kind, 3, sized(kind, 3))
		}
	}
}

func TestP12_4Examples(t *testing.T) {
	wantTold(t, reset(3, 1), api.Note{Code: 3, Sub: 1}, true)
	wantTold(t, api.Verdict{Action: api.Withdraw}, api.Note{}, false)
}

func TestP12_4EachReset(t *testing.T) {
	for code := range 256 {
		for sub := range 256 {
			c, s := uint8(code), uint8(sub)
			if n, is := msg.Told(reset(c, s)); n != (api.Note{Code: c, Sub: s}) || !is {
				t.Fatalf("Told(Reset %d %d): %s, %t", code, sub, brief(n), is)
			}
		}
	}
}

// Other actions ask for no note, whatever stands beside them; so do numbers that are none.
func TestP12_4NoReset(t *testing.T) {
	for _, action := range []int{api.Fine, api.Discard, api.Withdraw, -1, -3, 4, 5, 255, 259, math.MinInt, 1<<32 + 3, math.MaxInt} {
		for _, code := range codes {
			for _, sub := range codes {
				wantTold(t, api.Verdict{Action: action, Code: code, Sub: sub}, api.Note{}, false)
			}
		}
	}
}

// What Size finds wrong is told by a note that can be sent.
func TestP12_4OfSize(t *testing.T) {
	for _, kind := range append(kinds, none...) {
		for _, body := range counts {
			n, is := msg.Told(msg.Size(kind, body))
			if wrong := sized(kind, body); is != (wrong.Action == api.Reset) || n != (api.Note{Code: wrong.Code, Sub: wrong.Sub}) {
				t.Errorf("of Size(%d, %d): %s, %t", kind, body, brief(n), is)
			}
			if _, err := msg.Note(n); is != (err == api.OK) {
				t.Errorf("of Size(%d, %d): Note: %d", kind, body, err)
			}
		}
	}
}

func TestP12_4AnswersChanged(t *testing.T) {
	v := reset(4, 5)
	n, _ := msg.Told(v)
	n.Code, n.Sub, n.Data = 9, 9, "changed"
	if v != reset(4, 5) {
		t.Errorf("the verdict: %v", v)
	}
	wantTold(t, v, api.Note{Code: 4, Sub: 5}, true)
}
