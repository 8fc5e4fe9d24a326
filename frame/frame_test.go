package frame_test

import (
	"math/rand"
	"slices"
	"strings"
	"testing"

	"herald/api"
	"herald/frame"
)

func TestP9_1Examples(t *testing.T) {
	f := frame.New()
	k := api.Frame{Kind: api.KindKeep}
	for i, step := range []struct {
		piece  string
		frames []api.Frame
		left   int
	}{
		{keep, []api.Frame{k}, 0},
		{keep + keep, []api.Frame{k, k}, 0},
		{keep[:5], nil, 5},
		{keep[5:], []api.Frame{k}, 0},
	} {
		frames, v := f.Put(step.piece)
		if got, want := (told{frames, v, f.Left()}), (told{step.frames, api.Verdict{}, step.left}); !same(got, want) {
			t.Errorf("Put %d: %s, want %s", i+1, brief(got), brief(want))
		}
	}
}

func TestP9_1BrokenExamples(t *testing.T) {
	for _, c := range []struct {
		pieces []string
		want   [][]api.Frame
		sub    uint8
	}{
		{[]string{ones + raw("0012 04"), keep}, [][]api.Frame{nil, nil}, 2},
		{[]string{keep + ones[:15] + raw("00 0013 04")}, [][]api.Frame{{{Kind: api.KindKeep}}}, 1},
		{[]string{ones + raw("0013 06")}, [][]api.Frame{nil}, 3},
		{[]string{ones + raw("0013 01")}, [][]api.Frame{nil}, 2},
		{[]string{ones + raw("1001 02")}, [][]api.Frame{nil}, 2},
		{[]string{ones + raw("0014 04")}, [][]api.Frame{nil}, 2},
	} {
		f := frame.New()
		for i, piece := range c.pieces {
			frames, v := f.Put(piece)
			if got, want := (told{frames, v, f.Left()}), (told{c.want[i], reset(c.sub), 0}); !same(got, want) {
				t.Errorf("%x, Put %d: %s, want %s", c.pieces, i+1, brief(got), brief(want))
			}
		}
	}
}

func TestP9_1OnePiece(t *testing.T) {
	for _, s := range append(good(), long()...) {
		follow(t, frame.New(), "", []string{s})
		follow(t, frame.New(), "", []string{s, "", s[:0]})
	}
}

func TestP9_1ByteByByte(t *testing.T) {
	for _, s := range good() {
		follow(t, frame.New(), "", by(s, 1))
	}
	s := message(api.KindUpdate, 4096)
	f := frame.New()
	for i := range len(s) - 1 {
		if frames, v := f.Put(s[i : i+1]); len(frames) != 0 || v != (api.Verdict{}) || f.Left() != i+1 {
			t.Fatalf("%d bytes: %s, %v, %d are left", i+1, brief(frames), v, f.Left())
		}
	}
	if frames, v := f.Put(s[4095:]); !slices.Equal(frames, []api.Frame{framed(api.KindUpdate, 4096)}) || v != (api.Verdict{}) || f.Left() != 0 {
		t.Errorf("the last byte: %s, %v, %d are left", brief(frames), v, f.Left())
	}
}

func TestP9_1Nothing(t *testing.T) {
	f := frame.New()
	if frames, v := f.Put(""); len(frames) != 0 || v != (api.Verdict{}) || f.Left() != 0 {
		t.Errorf("nothing: %s, %v", brief(frames), v)
	}
	for _, s := range good() {
		var pieces []string
		for i := range len(s) {
			pieces = append(pieces, "", s[i:i+1], "")
		}
		follow(t, frame.New(), "", pieces)
	}
}

func TestP9_1Several(t *testing.T) {
	many := message(3, 40) + keep + message(2, 100) + keep + keep + message(5, 23)
	for end := range many {
		follow(t, frame.New(), "", []string{many[:end], many[end:] + many, many[:end] + many, many})
	}
}

// A header's lengths, of each kind: all about the edges, just those that may be are framed.
func TestP9_1Lengths(t *testing.T) {
	for kind := range 256 {
		for _, length := range []int{0, 1, 17, 18, 19, 20, 21, 22, 23, 24, 28, 29, 30, 255, 256, 4095, 4096, 4097, 4098, 8192, 1<<15 | 19, 65535} {
			s := header(ones, length, kind) + some(max(length, 19)-19) + keep
			f := frame.New()
			got := pour(f, []string{s})
			span, is := spans[kind]
			want := told{}
			switch {
			case is && length >= span.least && length <= span.most:
				want.frames = []api.Frame{framed(kind, length), {Kind: api.KindKeep}}
			case !is && length >= 19 && length <= 4096:
				want.wrong = reset(3)
			default:
				want.wrong = reset(2)
			}
			if !same(got, want) {
				t.Errorf("kind %d, %d bytes: %s, want %s", kind, length, brief(got), brief(want))
			}
		}
	}
}

// All lengths there are, of the five kinds and of one that is none.
func TestP9_1EachLength(t *testing.T) {
	for kind := range 7 {
		for length := range 1 << 16 {
			s := header(ones, length, kind)
			f := frame.New()
			if _, v := f.Put(s); v != wrongWith(s) {
				t.Fatalf("kind %d, %d bytes: %v, want %v", kind, length, v, wrongWith(s))
			}
		}
	}
}

func TestP9_1EachMarkerByte(t *testing.T) {
	for at := range 16 {
		for c := range 255 {
			marker := ones[:at] + string([]byte{byte(c)}) + ones[at+1:]
			f := frame.New()
			if got := pour(f, []string{keep + marker + keep[16:] + keep}); !same(got, told{[]api.Frame{{Kind: api.KindKeep}}, reset(1), 0}) {
				t.Errorf("the marker %x: %s", marker, brief(got))
			}
		}
	}
}

// Wrong in several ways at once: the first of the list is told.
func TestP9_1FirstOfSeveral(t *testing.T) {
	bent := "\x00" + ones[1:]
	for _, c := range []struct {
		head string
		sub  uint8
	}{
		{header(bent, 18, 4), 1},
		{header(bent, 19, 0), 1},
		{header(bent, 4097, 255), 1},
		{header(bent, 19, 1), 1},
		{strings.Repeat("\x00", 19), 1},
		{header(ones, 18, 0), 2},
		{header(ones, 18, 6), 2},
		{header(ones, 4097, 255), 2},
		{strings.Repeat("\xff", 19), 2},
		{header(ones, 19, 0), 3},
		{header(ones, 4096, 6), 3},
		{header(ones, 20, 255), 3},
		{header(ones, 20, 4), 2},
		{header(ones, 4096, 4), 2},
		{header(ones, 4096, 5), 2},
	} {
		f := frame.New()
		if got := pour(f, []string{c.head}); !same(got, told{nil, reset(c.sub), 0}) {
			t.Errorf("%x: %s, want a Reset 1 %d", c.head, brief(got), c.sub)
		}
	}
}

// A header is judged when its last byte comes: not ahead, and not later.
func TestP9_1When(t *testing.T) {
	for head, want := range broken() {
		f := frame.New()
		for i := range 18 {
			if frames, v := f.Put(head[i : i+1]); len(frames) != 0 || v != (api.Verdict{}) || f.Left() != i+1 {
				t.Fatalf("%d bytes of %x: %v, %d are left", i+1, head, v, f.Left())
			}
		}
		if _, v := f.Put(""); v != (api.Verdict{}) {
			t.Errorf("18 bytes of %x, and nothing: %v", head, v)
		}
		if frames, v := f.Put(head[18:]); len(frames) != 0 || v != want || f.Left() != 0 {
			t.Errorf("%x: %v, want %v; %d are left", head, v, want, f.Left())
		}
	}
}

// Frames ahead of a break are told, and the break with them.
func TestP9_1AheadOfABreak(t *testing.T) {
	for head, wrong := range broken() {
		for _, n := range []int{0, 1, 2, 7} {
			ahead := strings.Repeat(message(3, 30), n)
			want := told{slices.Repeat([]api.Frame{framed(3, 30)}, n), wrong, 0}
			f := frame.New()
			if got := pour(f, []string{ahead + head + keep}); !same(got, want) {
				t.Errorf("%d ahead of %x: %s, want %s", n, head, brief(got), brief(want))
			}
		}
	}
}

// A broken stream stays so, by what broke it, whatever comes.
func TestP9_1BehindABreak(t *testing.T) {
	for head, wrong := range broken() {
		f := frame.New()
		f.Put(keep + head)
		for other := range broken() {
			for _, piece := range []string{"", keep, other, "\xff", message(2, 23) + keep} {
				if frames, v := f.Put(piece); len(frames) != 0 || v != wrong || f.Left() != 0 {
					t.Fatalf("%s behind %x: %s, %v, %d are left, want %v", brief(piece), head, brief(frames), v, f.Left(), wrong)
				}
			}
		}
	}
}

// What was told is not told again, and not changed by what comes later.
func TestP9_1AnswersStay(t *testing.T) {
	f := frame.New()
	first, _ := f.Put(message(2, 60) + message(3, 50)[:30])
	second, _ := f.Put(message(3, 50)[30:] + message(1, 70))
	third, _ := f.Put(message(2, 4096) + strings.Repeat(keep, 9))
	for i, c := range []struct{ got, want []api.Frame }{
		{first, []api.Frame{framed(2, 60)}},
		{second, []api.Frame{framed(3, 50), framed(1, 70)}},
		{third, append([]api.Frame{framed(2, 4096)}, slices.Repeat([]api.Frame{{Kind: 4}}, 9)...)},
	} {
		if !slices.Equal(c.got, c.want) {
			t.Errorf("Put %d: %s, want %s", i+1, brief(c.got), brief(c.want))
		}
	}
}

// Frames that were answered may be changed, with the room behind them.
func TestP9_1AnswersChanged(t *testing.T) {
	f := frame.New()
	came := ""
	for _, piece := range by(strings.Repeat(message(2, 40)+keep+message(3, 21), 20), 33) {
		ahead := all(came)
		came += piece
		frames, _ := f.Put(piece)
		if now := all(came); !slices.Equal(frames, now.frames[len(ahead.frames):]) {
			t.Fatalf("%d bytes: %s", len(came), brief(frames))
		}
		frames = frames[:cap(frames)]
		for i := range frames {
			frames[i] = api.Frame{Kind: 9, Body: "changed"}
		}
	}
}

func TestP9_1Apart(t *testing.T) {
	f, g := frame.New(), frame.New()
	f.Put(message(2, 100)[:60])
	g.Put(message(3, 100)[:60])
	frames, _ := f.Put(message(2, 100)[60:])
	others, _ := g.Put(message(3, 100)[60:])
	if !slices.Equal(frames, []api.Frame{framed(2, 100)}) || !slices.Equal(others, []api.Frame{framed(3, 100)}) {
		t.Errorf("%s, %s", brief(frames), brief(others))
	}
	f.Put("\x00" + keep)
	if frames, v := g.Put(keep); len(frames) != 1 || v != (api.Verdict{}) {
		t.Errorf("beside a broken one: %s, %v", brief(frames), v)
	}
}

func TestP9_1NotThere(t *testing.T) {
	for _, f := range []*frame.Framer{nil, {}} {
		for _, piece := range append(good(), "\x00", strings.Repeat("\x00", 19), ones+raw("001204")) {
			for range 2 {
				if frames, v := f.Put(piece); len(frames) != 0 || v != (api.Verdict{}) || f.Left() != 0 {
					t.Errorf("%s: %s, %v, %d are left", brief(piece), brief(frames), v, f.Left())
				}
			}
		}
		if f.Copy() != nil {
			t.Error("there is a copy")
		}
	}
}

func TestP9_2Left(t *testing.T) {
	f := frame.New()
	if f.Left() != 0 {
		t.Errorf("of a new one: %d", f.Left())
	}
	came := keep + message(2, 300) + message(3, 22)[:21]
	for i, c := range []struct {
		piece string
		left  int
	}{
		{"", 0},
		{keep[:1], 1},
		{keep[1:18], 18},
		{keep[18:], 0},
		{came[19:38], 19},
		{came[38:39], 20},
		{came[39:318], 299},
		{came[318:320], 1},
		{came[320:], 21},
		{"\x01", 0},
		{strings.Repeat(keep, 3) + ones, 16},
		{"\x00\x12", 18},
		{"\x04" + keep + ones, 0},
		{ones, 0},
	} {
		f.Put(c.piece)
		if f.Left() != c.left || f.Left() != c.left {
			t.Errorf("step %d: %d, want %d", i, f.Left(), c.left)
		}
	}
}

// A copy at each place goes on as the framer would have, and neither hears what comes to the other one.
func TestP9_2Copy(t *testing.T) {
	other := message(3, 33) + keep
	for _, s := range good() {
		for at := range len(s) + 1 {
			f := frame.New()
			f.Put(s[:at])
			c := f.Copy()
			if c == f || c.Left() != f.Left() {
				t.Fatalf("at %d of %s: %d are left, not %d", at, brief(s), c.Left(), f.Left())
			}
			for i := at; i < len(s); i += 7 {
				end := min(i+7, len(s))
				follow(t, f, s[:i], []string{s[i:end]})
			}
			follow(t, f, s, []string{other})
			follow(t, c, s[:at], []string{s[at:], other})
		}
	}
}

// A copy, other bytes for each of the two in turns.
func TestP9_2CopyApart(t *testing.T) {
	s := message(2, 60)
	for at := 19; at < len(s); at++ {
		f := frame.New()
		f.Put(s[:at])
		c := f.Copy()
		want := [2]string{s[19:at], s[19:at]}
		for i := at; i < len(s)-1; i++ {
			f.Put("f")
			c.Put("c")
			want[0] += "f"
			want[1] += "c"
		}
		mine, _ := f.Put("f")
		its, _ := c.Put("c")
		if !slices.Equal(mine, []api.Frame{{Kind: 2, Body: want[0] + "f"}}) || !slices.Equal(its, []api.Frame{{Kind: 2, Body: want[1] + "c"}}) {
			t.Errorf("at %d: %s, %s", at, brief(mine), brief(its))
		}
	}
}

func TestP9_2CopyOfBroken(t *testing.T) {
	for head, wrong := range broken() {
		f := frame.New()
		whole := f.Copy()
		f.Put(keep + head + keep)
		for _, g := range []*frame.Framer{f.Copy(), f.Copy().Copy()} {
			for _, piece := range []string{"", keep, ones} {
				if frames, v := g.Put(piece); len(frames) != 0 || v != wrong || g.Left() != 0 {
					t.Errorf("behind %x: %s, %v, %d are left", head, brief(frames), v, g.Left())
				}
			}
		}
		if frames, v := whole.Put(keep); len(frames) != 1 || v != (api.Verdict{}) {
			t.Errorf("a copy from ahead of the break: %s, %v", brief(frames), v)
		}
	}
}

func TestP9_2CopyBreaks(t *testing.T) {
	f := frame.New()
	f.Put(keep[:10])
	c := f.Copy()
	if _, v := c.Put("\x00" + keep); v != reset(1) {
		t.Errorf("the copy: %v", v)
	}
	if frames, v := f.Put(keep[10:] + keep); len(frames) != 2 || v != (api.Verdict{}) {
		t.Errorf("the other one: %s, %v", brief(frames), v)
	}
}

// Cut at each place, and at each two places: all together is the same.
func TestP9_4EachCut(t *testing.T) {
	streams := good()
	for head := range broken() {
		streams = append(streams, message(3, 25)+head+keep)
	}
	for _, s := range streams {
		want := all(s)
		for at := range len(s) + 1 {
			if got := pour(frame.New(), []string{s[:at], s[at:]}); !same(got, want) {
				t.Fatalf("%s cut at %d: %s, want %s", brief(s), at, brief(got), brief(want))
			}
		}
	}
	s := message(3, 25) + keep + message(2, 23) + header(ones, 18, 2) + keep
	want := all(s)
	for first := range len(s) + 1 {
		for second := first; second <= len(s); second++ {
			if got := pour(frame.New(), []string{s[:first], s[first:second], s[second:]}); !same(got, want) {
				t.Fatalf("cut at %d and %d: %s, want %s", first, second, brief(got), brief(want))
			}
		}
	}
}

func TestP9_4EachSize(t *testing.T) {
	for _, s := range append(good(), long()...) {
		for _, tail := range []string{"", "\x00" + keep, header(ones, 19, 9) + keep + keep[:3]} {
			want := all(s + tail)
			for _, size := range []int{1, 2, 3, 7, 16, 17, 18, 19, 20, 37, 38, 39, 255, 1000, 4095, 4096, 4097, 5000} {
				if got := pour(frame.New(), by(s+tail, size)); !same(got, want) {
					t.Errorf("%s by %d: %s, want %s", brief(s+tail), size, brief(got), brief(want))
				}
			}
		}
	}
}

// Bytes behind a break count for nothing: whatever they are, all that is told is the same.
func TestP9_4BehindABreak(t *testing.T) {
	for head, wrong := range broken() {
		for _, tail := range append(good(), "\x00", head, strings.Repeat("\xff", 5000)) {
			s := keep + message(3, 21) + head + tail
			want := told{[]api.Frame{{Kind: 4}, framed(3, 21)}, wrong, 0}
			if got := pour(frame.New(), by(s, 11)); !same(got, want) {
				t.Fatalf("%x, then %s: %s, want %s", head, brief(tail), brief(got), brief(want))
			}
		}
	}
}

// Streams put together at random of messages and of what breaks, in pieces at random.
func TestP9_4Any(t *testing.T) {
	r := rand.New(rand.NewSource(9))
	heads := slices.Sorted(func(yield func(string) bool) {
		for head := range broken() {
			if !yield(head) {
				return
			}
		}
	})
	for range 3000 {
		s := ""
		for range r.Intn(9) {
			kind := 1 + r.Intn(5)
			span := spans[kind]
			s += message(kind, span.least+r.Intn(min(span.most-span.least, 80)+1))
		}
		if r.Intn(3) == 0 {
			s += heads[r.Intn(len(heads))] + keep
		}
		s = s[:len(s)-r.Intn(len(s)/4+1)]
		var pieces []string
		for rest := s; rest != ""; {
			n := r.Intn(min(len(rest), 50) + 1)
			pieces = append(pieces, rest[:n])
			rest = rest[n:]
		}
		follow(t, frame.New(), "", pieces)
	}
}

// Any bytes at all: no call panics, and the model tells the same.
func TestP9_4AnyBytes(t *testing.T) {
	r := rand.New(rand.NewSource(94))
	for range 20000 {
		b := []byte(keep + message(2, 25) + message(5, 23) + keep)
		for range r.Intn(3) {
			b[r.Intn(len(b))] = byte(r.Intn(256))
		}
		follow(t, frame.New(), "", by(string(b), 1+r.Intn(len(b))))
	}
}
