package msg_test

import (
	"fmt"
	"math/rand"
	"strings"
	"testing"

	"herald/api"
	"herald/frame"
	"herald/msg"
)

func wantNote(t *testing.T, n api.Note, want string, must api.Errno) {
	t.Helper()
	b, err := msg.Note(n)
	wantSame(t, "Note("+brief(n)+")", b, err, want, must)
}

func wantReadNote(t *testing.T, b string, want api.Note, must api.Errno) {
	t.Helper()
	n, err := msg.ReadNote(b)
	wantSame(t, "ReadNote("+brief(b)+")", n, err, want, must)
}

func wantRefresh(t *testing.T, fam int, want string, must api.Errno) {
	t.Helper()
	b, err := msg.Refresh(fam)
	wantSame(t, fmt.Sprintf("Refresh(%d)", fam), b, err, want, must)
}

func wantReadRefresh(t *testing.T, b string, want int, must api.Errno) {
	t.Helper()
	fam, err := msg.ReadRefresh(b)
	wantSame(t, "ReadRefresh("+brief(b)+")", fam, err, want, must)
}

func TestP12_2Examples(t *testing.T) {
	n := api.Note{Code: 6, Sub: 2, Data: "x"}
	wantNote(t, n, raw("06 02 78"), api.OK)
	wantNote(t, api.Note{}, "", api.ErrArg)
	wantReadNote(t, raw("06 02 78"), n, api.OK)
	wantReadNote(t, raw("06"), api.Note{}, api.ErrForm)
	wantReadNote(t, raw("00 02"), api.Note{}, api.ErrForm)
}

func TestP12_2Note(t *testing.T) {
	for _, code := range codes[1:] {
		for _, sub := range codes {
			for _, d := range data() {
				n := api.Note{Code: code, Sub: sub, Data: d}
				wantNote(t, n, laid(n), api.OK)
				wantReadNote(t, laid(n), n, api.OK)
			}
		}
	}
}

// Data that just fits, and a byte more.
func TestP12_2Long(t *testing.T) {
	wantNote(t, api.Note{Code: 1, Data: some(4075)}, raw("01 00")+some(4075), api.OK)
	for _, more := range []int{4076, 4077, 4078, 4096, 1 << 16, 1<<16 + 3, 1 << 20} {
		for _, code := range codes[1:] {
			wantNote(t, api.Note{Code: code, Sub: 3, Data: some(more)}, "", api.ErrLong)
		}
	}
}

// The code 0 is told ahead of data that is too long.
func TestP12_2NoCode(t *testing.T) {
	for _, sub := range codes {
		for _, d := range append(data(), some(4076), some(5000), some(1<<17)) {
			wantNote(t, api.Note{Sub: sub, Data: d}, "", api.ErrArg)
		}
	}
}

func TestP12_2ReadEachLength(t *testing.T) {
	long := "\x03\x00" + some(4300)
	for n := range len(long) + 1 {
		want, must := api.Note{}, api.ErrForm
		switch {
		case n > 4077:
			must = api.ErrLong
		case n >= 2:
			want, must = api.Note{Code: 3, Data: long[2:n]}, api.OK
		}
		if got, err := msg.ReadNote(long[:n]); got != want || err != must {
			t.Fatalf("ReadNote of %d bytes: %s, %d, want %s, %d", n, brief(got), err, brief(want), must)
		}
	}
}

// A body that is too long is told ahead of the code 0, which is wrong at any other length.
func TestP12_2ReadNoCode(t *testing.T) {
	for _, all := range []string{"\x00\x07" + some(4300), strings.Repeat("\x00", 4300)} {
		for n := range len(all) {
			must := api.ErrForm
			if n > 4077 {
				must = api.ErrLong
			}
			wantReadNote(t, all[:n], api.Note{}, must)
		}
	}
	wantReadNote(t, strings.Repeat("\x00", 1<<20), api.Note{}, api.ErrLong)
}

// A body of one byte is none, whichever it is; of two bytes the first one tells.
func TestP12_2ReadShort(t *testing.T) {
	for first := range 256 {
		wantReadNote(t, string([]byte{byte(first)}), api.Note{}, api.ErrForm)
		for second := range 256 {
			want, must := api.Note{Code: uint8(first), Sub: uint8(second)}, api.OK
			if first == 0 {
				want, must = api.Note{}, api.ErrForm
			}
			wantReadNote(t, string([]byte{byte(first), byte(second)}), want, must)
		}
	}
}

// What was handed in, and what was answered, may be changed: later answers are the same.
func TestP12_2AnswersChanged(t *testing.T) {
	n := api.Note{Code: 6, Sub: 2, Data: "abc"}
	b, _ := msg.Note(n)
	got, _ := msg.ReadNote(b)
	got.Code, got.Sub, got.Data = 0, 0, got.Data+"more"
	bytes := []byte(b)
	bytes[0], bytes[2] = 0, 'z'
	if n != (api.Note{Code: 6, Sub: 2, Data: "abc"}) || b != "\x06\x02abc" {
		t.Errorf("changed: %s, %x", brief(n), b)
	}
	wantNote(t, n, "\x06\x02abc", api.OK)
	wantReadNote(t, b, n, api.OK)
}

func TestP12_3Examples(t *testing.T) {
	wantRefresh(t, api.V6, raw("0002 00 01"), api.OK)
	wantRefresh(t, 0, "", api.ErrArg)
	wantReadRefresh(t, raw("0002 07 01"), api.V6, api.OK)
	wantReadRefresh(t, raw("0003 00 01"), 0, api.ErrNone)
	wantReadRefresh(t, raw("0002 00"), 0, api.ErrForm)
}

func TestP12_3EachFamily(t *testing.T) {
	for fam, body := range map[int]string{api.V4: "0001 00 01", api.V6: "0002 00 01", api.L4: "0001 00 04", api.Vpn4: "0001 00 80", api.Vpn6: "0002 00 80"} {
		wantRefresh(t, fam, raw(body), api.OK)
		wantReadRefresh(t, raw(body), fam, api.OK)
	}
	for _, fam := range none {
		wantRefresh(t, fam, "", api.ErrArg)
	}
}

func TestP12_3ThirdByte(t *testing.T) {
	for fam, pair := range pairs {
		for third := range 256 {
			wantReadRefresh(t, asked(pair[0], third, pair[1]), fam, api.OK)
			wantReadRefresh(t, asked(pair[0]+2, third, pair[1]), 0, api.ErrNone)
			wantReadRefresh(t, asked(pair[0], third, pair[1]+1), 0, api.ErrNone)
		}
	}
}

// All AFIs with some SAFIs, all SAFIs with some AFIs: just the families' pairs are taken.
func TestP12_3EachPair(t *testing.T) {
	ask := func(afi, safi int) {
		want, must := famOf(afi, safi), api.OK
		if want == 0 {
			must = api.ErrNone
		}
		// Each pair has another third byte.
		if got, err := msg.ReadRefresh(asked(afi, (afi+safi)%256, safi)); got != want || err != must {
			t.Fatalf("ReadRefresh of the pair %d, %d: %d, %d, want %d, %d", afi, safi, got, err, want, must)
		}
	}
	for afi := range 1 << 16 {
		for _, safi := range []int{0, 1, 4, 128} {
			ask(afi, safi)
		}
	}
	for safi := range 256 {
		for _, afi := range []int{0, 1, 2, 3, 4, 25, 128, 255, 256, 257, 258, 512, 513, 1 << 15, 1<<15 + 1, 65535} {
			ask(afi, safi)
		}
	}
}

// Bodies that do not have just 4 bytes, whatever they begin with.
func TestP12_3Lengths(t *testing.T) {
	for _, begin := range []string{"", raw("0001 00 01"), raw("0002 00 80"), raw("0003 00 01"), raw("0000 00 00"), raw("0001 00 01 0001 00 01")} {
		all := begin + some(300)
		for n := range len(all) {
			if n != 4 {
				wantReadRefresh(t, all[:n], 0, api.ErrForm)
			}
		}
	}
	for _, n := range []int{4077, 4078, 1 << 16, 1<<16 + 4, 1 << 20} {
		wantReadRefresh(t, raw("0001 00 01")+some(n-4), 0, api.ErrForm)
	}
}

// Bytes of a pair at other places are not it.
func TestP12_3Places(t *testing.T) {
	for _, body := range []string{"0100 01 00", "0001 01 00", "0000 01 01", "0100 00 01", "0200 00 01", "0001 04 00", "0004 00 01", "0080 00 01", "0101 00 01", "0102 00 80", "0000 00 01", "0001 00 00", "0001 00 81", "0002 00 04"} {
		wantReadRefresh(t, raw(body), 0, api.ErrNone)
	}
}

func TestP12_3AnswersChanged(t *testing.T) {
	for range 2 {
		for fam, pair := range pairs {
			body, _ := msg.Refresh(fam)
			bytes := []byte(body)
			clear(bytes)
			wantRefresh(t, fam, asked(pair[0], 0, pair[1]), api.OK)
			wantReadRefresh(t, body, fam, api.OK)
		}
	}
}

// Each note that can be laid is read back, and each body that is read is laid again.
func TestP12_5Notes(t *testing.T) {
	for code := 1; code < 256; code++ {
		for sub := range 256 {
			n := api.Note{Code: uint8(code), Sub: uint8(sub), Data: some((code + sub) % 9)}
			b, err := msg.Note(n)
			if back, read := msg.ReadNote(b); back != n || err != api.OK || read != api.OK {
				t.Fatalf("%s: %x, %d, back %s, %d", brief(n), b, err, brief(back), read)
			}
		}
	}
	for size := range 4076 {
		n := api.Note{Code: 255, Sub: 254, Data: some(size)}
		b, err := msg.Note(n)
		if back, read := msg.ReadNote(b); back != n || err != api.OK || read != api.OK {
			t.Fatalf("with %d bytes: %d, %d", size, err, read)
		}
	}
}

func TestP12_5Bodies(t *testing.T) {
	r := rand.New(rand.NewSource(125))
	for range 20000 {
		b := make([]byte, r.Intn(30))
		if r.Intn(20) == 0 {
			b = make([]byte, 4060+r.Intn(40))
		}
		r.Read(b)
		if len(b) > 0 && r.Intn(4) == 0 {
			b[0] = 0
		}
		body := string(b)
		n, err := msg.ReadNote(body)
		if takes := len(body) >= 2 && len(body) <= 4077 && body[0] != 0; takes != (err == api.OK) {
			t.Fatalf("ReadNote(%s): %d", brief(body), err)
		}
		if again, laid := msg.Note(n); err == api.OK && (again != body || laid != api.OK) {
			t.Fatalf("%s: %s, laid again %s, %d", brief(body), brief(n), brief(again), laid)
		}
	}
}

func TestP12_5Refreshes(t *testing.T) {
	for fam := api.V4; fam <= api.Families; fam++ {
		b, err := msg.Refresh(fam)
		if back, read := msg.ReadRefresh(b); back != fam || err != api.OK || read != api.OK {
			t.Errorf("%d: %x, %d, back %d, %d", fam, b, err, back, read)
		}
	}
}

// What is laid has a size that its kind may have, and a message can be made of it.
func TestP12_5MayBe(t *testing.T) {
	may := func(kind int, body string) {
		t.Helper()
		if v := msg.Size(kind, len(body)); v != (api.Verdict{}) {
			t.Errorf("the kind %d, %s: %v", kind, brief(body), v)
		}
		if _, err := frame.Make(api.Frame{Kind: kind, Body: body}); err != api.OK {
			t.Errorf("the kind %d, %s: Make: %d", kind, brief(body), err)
		}
	}
	for _, d := range data() {
		b, _ := msg.Note(api.Note{Code: 6, Data: d})
		may(api.KindNote, b)
	}
	for fam := range pairs {
		b, _ := msg.Refresh(fam)
		may(api.KindRefresh, b)
	}
}
