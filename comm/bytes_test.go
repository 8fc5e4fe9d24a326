package comm_test

import (
	"slices"
	"strings"
	"testing"

	"herald/api"
	"herald/comm"
)

func (k kind[T]) wantEncode(t *testing.T, l []T) {
	t.Helper()
	want, wantErr := k.encoded(l)
	if got, err := k.encode(l); got != want || err != wantErr {
		t.Errorf("%s, encoding %s: %s, %d, not %s, %d", k.name, brief(l), brief(got), err, brief(want), wantErr)
	}
}

func (k kind[T]) wantDecode(t *testing.T, s string) {
	t.Helper()
	want, wantErr := k.decoded(s)
	if got, err := k.decode(s); !slices.Equal(got, want) || err != wantErr {
		t.Errorf("%s, decoding %d bytes %s: %s, %d, not %s, %d", k.name, len(s), brief(s), brief(got), err, brief(want), wantErr)
	}
}

func TestP5_2Examples(t *testing.T) {
	if s, err := comm.Encode(nums(1, 258)); s != "\x00\x00\x00\x01\x00\x00\x01\x02" || err != api.OK {
		t.Errorf("Encode: %q, %d", s, err)
	}
	for _, l := range [][]uint32{{2, 1}, {1, 1}} {
		if s, err := comm.Encode(l); s != "" || err != api.ErrArg {
			t.Errorf("Encode(%d): %q, %d", l, s, err)
		}
	}
	if l, err := comm.Decode("\x00\x00\x01\x02\x00\x00\x00\x01\x00\x00\x00\x01"); !slices.Equal(l, nums(1, 258)) || err != api.OK {
		t.Errorf("Decode: %d, %d", l, err)
	}
	for _, s := range []string{"", "12345"} {
		if l, err := comm.Decode(s); l != nil || err != api.ErrForm {
			t.Errorf("Decode(%q): %d, %d", s, l, err)
		}
	}
	if s, err := comm.EncodeLarges([]api.Large{{Global: 1, A: 2, B: 3}}); s != "\x00\x00\x00\x01\x00\x00\x00\x02\x00\x00\x00\x03" || err != api.OK {
		t.Errorf("EncodeLarges: %q, %d", s, err)
	}
	if l, err := comm.DecodeExts("\x00\x02\xfd\xe8\x00\x00\x00\x07"); !slices.Equal(l, exts(0x0002fde800000007)) || err != api.OK {
		t.Errorf("DecodeExts: %x, %d", l, err)
	}
	if s, err := comm.EncodeExts(exts(comm.Target(65000, 7))); s != "\x00\x02\xfd\xe8\x00\x00\x00\x07" || err != api.OK {
		t.Errorf("EncodeExts: %q, %d", s, err)
	}
}

func TestP5_2Encode(t *testing.T) {
	testEncode(t, plain)
	testEncode(t, ext)
	testEncode(t, large)
}

func testEncode[T comparable](t *testing.T, k kind[T]) {
	for _, l := range [][]T{nil, {}} {
		if s, err := k.encode(l); s != "" || err != api.OK {
			t.Errorf("%s, nothing: %q, %d", k.name, s, err)
		}
	}
	k.wantEncode(t, k.edges)
	for i, x := range k.edges {
		k.wantEncode(t, []T{x})
		k.wantEncode(t, slices.Delete(slices.Clone(k.edges), i, i+1))
		for _, y := range k.edges {
			k.wantEncode(t, []T{x, y})
			k.wantEncode(t, []T{k.edges[0], x, y})
			k.wantEncode(t, []T{x, y, k.edges[len(k.edges)-1]})
		}
	}
	for _, n := range []int{1, 2, 3, 32, 62, 63, 64, 65, 66, 127, 128, 129, 256, 320, 1000} {
		l := k.count(n)
		if s, err := k.encode(l); (err == api.OK) != (n <= 64) || err == api.OK && len(s) != n*k.size {
			t.Errorf("%s, %d of them: %d bytes, %d", k.name, n, len(s), err)
		}
		k.wantEncode(t, l)
		k.wantEncode(t, mixed(l))
		k.wantEncode(t, slices.Repeat(l[:1], n))
	}
}

// TestP5_2OneWrong: a list of 64 in which, at one place, two are turned, or one stands twice.
func TestP5_2OneWrong(t *testing.T) {
	testOneWrong(t, plain)
	testOneWrong(t, ext)
	testOneWrong(t, large)
}

func testOneWrong[T comparable](t *testing.T, k kind[T]) {
	for _, n := range []int{2, 3, 63, 64} {
		for i := range n - 1 {
			turned, twice := k.count(n), k.count(n)
			turned[i], turned[i+1] = turned[i+1], turned[i]
			twice[i+1] = twice[i]
			for _, l := range [][]T{turned, twice} {
				if s, err := k.encode(l); s != "" || err != api.ErrArg {
					t.Errorf("%s, %d of them, wrong at %d: %d bytes, %d", k.name, n, i, len(s), err)
				}
			}
			k.wantDecode(t, k.laid(turned))
			k.wantDecode(t, k.laid(twice))
		}
	}
}

func TestP5_2Decode(t *testing.T) {
	testDecode(t, plain)
	testDecode(t, ext)
	testDecode(t, large)
}

func testDecode[T comparable](t *testing.T, k kind[T]) {
	for _, x := range k.edges {
		k.wantDecode(t, k.lay(x))
		for _, y := range k.edges {
			k.wantDecode(t, k.laid([]T{x, y}))
			k.wantDecode(t, k.laid([]T{x, y, x}))
		}
	}
	for _, l := range lists(5, k.edges[0], k.edges[1], k.edges[3], k.edges[len(k.edges)-1]) {
		k.wantDecode(t, k.laid(l))
	}
	k.wantDecode(t, k.laid(mixed(k.edges)))
	for _, n := range []int{1, 2, 63, 64, 65, 66, 128, 1000} {
		for _, times := range []int{1, 2, 3, 50} {
			l := slices.Repeat(k.count(n), times)
			k.wantDecode(t, k.laid(l))
			k.wantDecode(t, k.laid(mixed(l)))
			// One that is unlike the others, behind them all and ahead of them.
			k.wantDecode(t, k.laid(append(l, k.nth(n))))
			k.wantDecode(t, k.laid(slices.Insert(mixed(l), 0, k.nth(n))))
		}
	}
}

// TestP5_2Limit: it is those unlike that count, not all.
func TestP5_2Limit(t *testing.T) {
	testLimit(t, plain)
	testLimit(t, ext)
	testLimit(t, large)
}

func testLimit[T comparable](t *testing.T, k kind[T]) {
	many := k.laid(mixed(slices.Repeat(k.count(64), 7)))
	if l, err := k.decode(many); err != api.OK || !slices.Equal(l, k.count(64)) {
		t.Errorf("%s, 64 unlike: %s, %d", k.name, brief(l), err)
	}
	for _, s := range []string{k.lay(k.nth(64)) + many, many + k.lay(k.nth(64)), k.laid(k.count(65)), k.laid(mixed(k.count(1000)))} {
		if l, err := k.decode(s); l != nil || err != api.ErrLong {
			t.Errorf("%s, 65 unlike and more: %s, %d", k.name, brief(l), err)
		}
		// Of both the length is told first.
		for n := 1; n < k.size; n++ {
			if l, err := k.decode(s + many[:n]); l != nil || err != api.ErrForm {
				t.Errorf("%s, 65 unlike and %d bytes: %s, %d", k.name, n, brief(l), err)
			}
		}
	}
	one := strings.Repeat(k.lay(k.edges[1]), 100000)
	if l, err := k.decode(one); err != api.OK || !slices.Equal(l, k.edges[1:2]) {
		t.Errorf("%s, one often: %s, %d", k.name, brief(l), err)
	}
}

func TestP5_2Lengths(t *testing.T) {
	testLengths(t, plain)
	testLengths(t, ext)
	testLengths(t, large)
}

func testLengths[T comparable](t *testing.T, k kind[T]) {
	for n := range 14 * k.size {
		for _, s := range []string{strings.Repeat("\x00", n), strings.Repeat("\xff", n), k.laid(k.count(14))[:n]} {
			k.wantDecode(t, s)
			if l, err := k.decode(s); n%k.size != 0 && (err != api.ErrForm || l != nil) {
				t.Errorf("%s, %d bytes: %s, %d", k.name, n, brief(l), err)
			}
		}
	}
	if l, err := k.decode(""); err != api.ErrForm || l != nil {
		t.Errorf("%s, no bytes: %s, %d", k.name, brief(l), err)
	}
}

// TestP5_2EachByte: each byte of a community has a place of its own.
func TestP5_2EachByte(t *testing.T) {
	testEachByte(t, plain)
	testEachByte(t, ext)
	testEachByte(t, large)
}

func testEachByte[T comparable](t *testing.T, k kind[T]) {
	for i := range k.size {
		for c := range 256 {
			for _, fill := range []string{"\x00", "\x01", "\xff"} {
				b := []byte(strings.Repeat(fill, k.size))
				b[i] = byte(c)
				k.wantDecode(t, string(b))
				k.wantEncode(t, []T{k.unlay(string(b))})
			}
		}
	}
}

func TestP5_5Bytes(t *testing.T) {
	testBack(t, plain)
	testBack(t, ext)
	testBack(t, large)
}

// testBack: what is laid comes back, and what is read is laid so again; two lists have the same bytes just if they have the same communities.
func testBack[T comparable](t *testing.T, k kind[T]) {
	var all [][]T
	for i := range 1 << 6 {
		var l []T
		for bit := range 6 {
			if i>>bit&1 == 1 {
				l = append(l, k.edges[3*bit])
			}
		}
		all = append(all, l)
	}
	all = append(all, k.edges, k.count(1), k.count(63), k.count(64), k.edges[1:], k.edges[:len(k.edges)-1])
	texts := make([]string, len(all))
	for i, l := range all {
		s, err := k.encode(l)
		if err != api.OK {
			t.Errorf("%s, encoding %s: %d", k.name, brief(l), err)
		}
		texts[i] = s
		if len(l) == 0 {
			continue
		}
		back, err := k.decode(s)
		if err != api.OK || !slices.Equal(back, l) {
			t.Errorf("%s, %s came back as %s, %d", k.name, brief(l), brief(back), err)
		}
		back, err = k.decode(k.laid(mixed(slices.Repeat(l, 2))))
		if again, errAgain := k.encode(back); err != api.OK || errAgain != api.OK || again != s {
			t.Errorf("%s, %s, mixed and read, is laid as %s, %d, %d", k.name, brief(l), brief(again), err, errAgain)
		}
	}
	for i, a := range all {
		for j, b := range all {
			if slices.Equal(a, b) != (texts[i] == texts[j]) {
				t.Errorf("%s: %s and %s: bytes %s and %s", k.name, brief(a), brief(b), brief(texts[i]), brief(texts[j]))
			}
		}
	}
}
