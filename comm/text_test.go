package comm_test

import (
	"fmt"
	"strings"
	"testing"

	"herald/api"
	"herald/comm"
)

func wantParse(t *testing.T, s string, want uint32, wantErr api.Errno) {
	t.Helper()
	if c, err := comm.Parse(s); c != want || err != wantErr {
		t.Errorf("Parse(%q): %#x, %d, not %#x, %d", s, c, err, want, wantErr)
	}
}

func TestP5_4Examples(t *testing.T) {
	for c, s := range map[uint32]string{
		0xfde80007: "65000:7", api.NoExport: "no-export", api.NoAdvertise: "no-advertise", api.NoConfed: "no-export-subconfed",
		0: "0:0", 1: "0:1", 65535: "0:65535", 65536: "1:0", 0xffffff00: "65535:65280", 0xffffff04: "65535:65284", 0xffffffff: "65535:65535",
	} {
		if got := comm.Text(c); got != s {
			t.Errorf("Text(%#x): %q", c, got)
		}
		wantParse(t, s, c, api.OK)
	}
	for _, s := range []string{"65535:65281", "1:65536", "01:2"} {
		wantParse(t, s, 0, api.ErrForm)
	}
}

func TestP5_4Texts(t *testing.T) {
	check := func(c uint32) {
		if got := comm.Text(c); got != text(c) {
			t.Errorf("Text(%#x): %q, not %q", c, got, text(c))
		}
	}
	for _, c := range edges {
		check(c)
	}
	for i := range uint32(1 << 16) {
		check(i)
		check(i << 16)
		check(0xffff0000 | i)
		check(i<<16 | 0xff01)
		check(i * 0x10003)
	}
}

func TestP5_4WrongTexts(t *testing.T) {
	for _, s := range []string{
		"", ":", "1", "0", "1:", ":1", "::", "1::2", "1:2:3", "1:2:", ":1:2", "0:0:0", "no-export:1", "1:no-export", "12", "1 2", "1.2", "1;2", "1/2", "1,2", "1-2", "1：2",
		" 1:2", "1:2 ", "1 :2", "1: 2", "1 : 2", "\t1:2", "1:2\n", "1:2\r\n", "1\n:2", "1:2\x00", "\x001:2", "1:\x002", "1\u00a0:2", "\ufeff1:2",
		"01:2", "1:02", "00:0", "0:00", "01:02", "000001:2", "1:000002", "0000065000:7", "65000:00007",
		"65536:0", "0:65536", "65536:65536", "65537:1", "1:65537", "1:99999", "99999:1", "100000:1", "1:4294967296", "4294967296:1", "4294967297:1", "1:18446744073709551616", "18446744073709551617:1",
		"+1:2", "1:+2", "-1:2", "1:-2", "-0:0", "0:-0", "0x1:2", "1:0x2", "0b1:1", "0o1:1", "1_0:2", "1:1_0", "1e1:2", "1.0:2", "a:1", "1:a", "1a:2", "1:2a", "ff:1", "٣:1", "1:１",
		"65535:65281", "65535:65282", "65535:65283", "065535:65281", "4294967041", "4294967042", "4294967043", "0xffffff01",
		"No-export", "no-Export", "NO-EXPORT", "NO_EXPORT", "no_export", "noexport", "no export", "no-export ", " no-export", "no-export\n", "no-exports", "no-expor", "o-export", "no-", "no", "-export", "export",
		"No-Advertise", "no-advertisE", "NO-ADVERTISE", "no-advertis", "no-advertise ", "no-advertised", "no-advertize",
		"no-export-subconfeD", "NO-EXPORT-SUBCONFED", "no-export-", "no-export-subconf", "no-export-subconfed ", "no-export-sub", "no-confed", "no-export-no-advertise", "no-peer", "blackhole", "internet", "none", "-",
		strings.Repeat("9", 1000) + ":1", "1:" + strings.Repeat("9", 1000), strings.Repeat("0", 1000) + "1:1", strings.Repeat("1:", 1000), strings.Repeat(" ", 70000),
	} {
		wantParse(t, s, 0, api.ErrForm)
	}
}

// TestP5_4Numbers reads pairs of numbers about the edges.
func TestP5_4Numbers(t *testing.T) {
	vs := []uint64{0, 1, 9, 10, 99, 100, 255, 256, 9999, 10000, 65280, 65281, 65282, 65283, 65284, 65534, 65535, 65536, 65537, 131071, 1<<31 + 1, 1<<32 - 1, 1 << 32, 1<<32 + 1, 1<<48 + 1, 1<<64 - 1}
	for _, a := range vs {
		for _, b := range vs {
			s := fmt.Sprintf("%d:%d", a, b)
			want, err := parsed(s)
			wantParse(t, s, want, err)
			if (a > 65535 || b > 65535 || a == 65535 && b > 65280 && b < 65284) != (err == api.ErrForm) {
				t.Errorf("the model errs at %q: %d", s, err)
			}
		}
	}
}

// TestP5_4AllShort reads all texts of up to 6 bytes that stand in texts of numbers.
func TestP5_4AllShort(t *testing.T) {
	for _, l := range lists(6, "0", "1", "6", ":", " ", "-") {
		s := strings.Join(l, "")
		want, err := parsed(s)
		wantParse(t, s, want, err)
	}
}

// TestP5_4OneByte reads texts from which one byte was taken, or in which one was changed or put.
func TestP5_4OneByte(t *testing.T) {
	for _, s := range []string{"65000:7", "0:0", "65535:65280", "65535:65535", "6553:6528", "no-export", "no-advertise", "no-export-subconfed"} {
		for i := range len(s) + 1 {
			for c := range 256 {
				put := string([]byte{byte(c)})
				texts := []string{s[:i] + put + s[i:]}
				if i < len(s) {
					texts = append(texts, s[:i]+put+s[i+1:], s[:i]+s[i+1:])
				}
				for _, x := range texts {
					want, err := parsed(x)
					wantParse(t, x, want, err)
				}
			}
		}
	}
}

// TestP5_5Texts: communities come back from their texts, and no two have the same one.
func TestP5_5Texts(t *testing.T) {
	seen := map[string]uint32{}
	check := func(c uint32) {
		s := comm.Text(c)
		wantParse(t, s, c, api.OK)
		if other, ok := seen[s]; ok && other != c {
			t.Errorf("%#x and %#x are %q", c, other, s)
		}
		seen[s] = c
	}
	for _, c := range edges {
		check(c)
	}
	for i := range uint32(1 << 16) {
		check(i)
		check(i << 16)
		check(0xffff0000 | i)
		check(i * 0x10003)
	}
}
