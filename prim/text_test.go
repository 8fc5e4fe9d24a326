package prim_test

import (
	"fmt"
	"strconv"
	"strings"
	"testing"

	"herald/api"
	"herald/prim"
)

// near are texts that differ from s by a byte, or a byte more or less.
func near(s string) []string {
	const bytes = " \t\n+-_./:0123456789abcdefgxlpnvABFGVX\x00\x7f\x80\xff"
	l := []string{s, s + s, " " + s, s + " ", strings.ToUpper(s), s + "\x00"}
	for i := 0; i <= len(s); i++ {
		for _, b := range []byte(bytes) {
			l = append(l, s[:i]+string([]byte{b})+s[i:])
			if i < len(s) {
				l = append(l, s[:i]+string([]byte{b})+s[i+1:])
			}
		}
		if i < len(s) {
			l = append(l, s[:i]+s[i+1:])
		}
	}
	return l
}

// wantAddr is the model of an address' text.
func wantAddr(b string) string {
	if len(b) == 4 {
		return fmt.Sprintf("%d.%d.%d.%d", b[0], b[1], b[2], b[3])
	}
	var words []string
	for i := 0; i < 16; i += 2 {
		words = append(words, fmt.Sprintf("%x", int(b[i])<<8|int(b[i+1])))
	}
	return strings.Join(words, ":")
}

// wantText is the model of a prefix's text.
func wantText(p api.Prefix) string {
	name := []string{"", "v4", "v6", "l4", "vpn4", "vpn6"}[p.Fam]
	if p.Fam >= api.Vpn4 {
		name += fmt.Sprintf(" %d", p.RD)
	}
	return fmt.Sprintf("%s %s/%d", name, wantAddr(p.Addr), p.Len)
}

// TestP1_4AddrText: of 4 and of 16 bytes, ErrArg of all other numbers of them.
func TestP1_4AddrText(t *testing.T) {
	for addr, want := range map[string]string{
		"\x00\x00\x00\x00":               "0.0.0.0",
		"\x0a\x64\x09\xff":               "10.100.9.255",
		long(""):                         "0:0:0:0:0:0:0:0",
		long("\x00\x01"):                 "1:0:0:0:0:0:0:0",
		long("\xfe\x80\x01\x00\x0a\xbc"): "fe80:100:abc:0:0:0:0:0",
		strings.Repeat("\xff", 16):       "ffff:ffff:ffff:ffff:ffff:ffff:ffff:ffff",
	} {
		if got, e := prim.AddrText(addr); e != api.OK || got != want {
			t.Errorf("AddrText(%x) = %q, %d, want %q", addr, got, e, want)
		}
		if got, e := prim.Addr(want); e != api.OK || got != addr {
			t.Errorf("Addr(%q) = %x, %d, want %x", want, got, e, addr)
		}
	}
	for n := range 70 {
		if n == 4 || n == 16 {
			continue
		}
		for _, fill := range []string{"\x00", "1", "\xff"} {
			if got, e := prim.AddrText(strings.Repeat(fill, n)); e != api.ErrArg || got != "" {
				t.Errorf("AddrText of %d bytes = %q, %d", n, got, e)
			}
		}
	}
}

// TestP1_4Addr: what is no address' text is refused, and nothing else answered.
func TestP1_4Addr(t *testing.T) {
	for _, s := range []string{
		"1.2.3", "256.0.0.0", "0:0:0:0:0:0:0:G", "00:0:0:0:0:0:0:0", // the chapter's
		"", " ", ".", "...", ":::::::", "::", "::1", "0", "1.2.3.4.5", "1.2.3.4.", ".1.2.3.4", "1..2.3",
		"01.2.3.4", "1.2.3.00", "1.2.3.04", "+1.2.3.4", "-1.2.3.4", "-0.2.3.4", " 1.2.3.4", "1.2.3.4 ", "1. 2.3.4", "1.2.3.4\n",
		"1.2.3.a", "1.2.3.0x1", "1.2.3.1_0", "1.2.3.256", "1.2.3.1000", "1.2.3.18446744073709551616", "1.2.3." + strings.Repeat("9", 1000),
		"1:2:3:4:5:6:7", "1:2:3:4:5:6:7:8:9", "1:2:3:4:5:6:7:", ":1:2:3:4:5:6:7", "10000:0:0:0:0:0:0:0", "0:0:0:0:0:0:0:10000",
		"A:0:0:0:0:0:0:0", "0:0:0:0:0:0:0:fF", "0:0:0:0:0:0:0:g", "0:0:0:0:0:0:0:0x1", "0:0:0:0:0:0:0:01", "0:0:0:0:0:0:0:+1", "0:0:0:0:0:0:0:-1", "0:0:0:0:0:0:0: 1",
		"0:0:0:0:0:0:1.2.3.4", "1.2.3.4:0:0:0:0:0:0:0", "1:2:3:4", "1.2.3.4.5.6.7.8", "\x00\x00\x00\x00", long(""),
		strings.Repeat("1.", 1<<16), strings.Repeat("1:", 1<<16), strings.Repeat("0", 1<<16),
	} {
		if got, e := prim.Addr(s); e != api.ErrForm || got != "" {
			t.Errorf("Addr(%.60q) = %x, %d", s, got, e)
		}
	}
}

// TestP1_4Numbers: each number that an address' place may hold, written and read.
func TestP1_4Numbers(t *testing.T) {
	for n := range 300 {
		got, e := prim.Addr("1.2.3." + strconv.Itoa(n))
		if n > 255 && (e != api.ErrForm || got != "") || n < 256 && (e != api.OK || got != "\x01\x02\x03"+string([]byte{byte(n)})) {
			t.Errorf("1.2.3.%d: %x, %d", n, got, e)
		}
	}
	for n := range 1 << 17 {
		got, e := prim.Addr("1:" + strconv.FormatInt(int64(n), 16) + ":0:0:0:0:0:0")
		if n > 65535 && (e != api.ErrForm || got != "") || n < 65536 && (e != api.OK || got != long("\x00\x01"+string([]byte{byte(n >> 8), byte(n)}))) {
			t.Errorf("1:%x: %x, %d", n, got, e)
		}
	}
}

// TestP1_5Text: of each family; ErrArg of what may not be.
func TestP1_5Text(t *testing.T) {
	for _, c := range []struct {
		p    api.Prefix
		want string
	}{
		{v4("\x0a\x00\x00\x00", 8), "v4 10.0.0.0/8"},
		{vpn4(7, "\x0a\x01\x00\x00", 16), "vpn4 7 10.1.0.0/16"},
		{v6(long("\x00\x01"), 32), "v6 1:0:0:0:0:0:0:0/32"},
		{api.Prefix{Fam: api.L4, Addr: "\x00\x00\x00\x00"}, "l4 0.0.0.0/0"},
		{vpn4(0, "\x00\x00\x00\x00", 0), "vpn4 0 0.0.0.0/0"},
		{api.Prefix{Fam: api.Vpn6, RD: 1<<64 - 1, Addr: long(""), Len: 128}, "vpn6 18446744073709551615 0:0:0:0:0:0:0:0/128"},
		{v4("\xff\xff\xff\xff", 32), "v4 255.255.255.255/32"},
	} {
		if got, e := prim.Text(c.p); e != api.OK || got != c.want {
			t.Errorf("Text(%#v) = %q, %d, want %q", c.p, got, e, c.want)
		}
		if got, e := prim.Parse(c.want); e != api.OK || got != c.p {
			t.Errorf("Parse(%q) = %#v, %d, want %#v", c.want, got, e, c.p)
		}
	}
	for _, p := range odd() {
		if mayBe(p) {
			continue
		}
		if got, e := prim.Text(p); e != api.ErrArg || got != "" {
			t.Errorf("Text(%#v) = %q, %d", p, got, e)
		}
	}
}

// TestP1_5Parse: what is no prefix's text is refused, and nothing else answered.
func TestP1_5Parse(t *testing.T) {
	for _, s := range []string{
		"v4 10.0.0.1/8", "v4 10.0.0.0/33", "v4 010.0.0.0/8", // the chapter's
		"", " ", "v4", "v4 ", "v4 /", "v4 /8", "v4 10.0.0.0", "v4 10.0.0.0/", "v410.0.0.0/8", "10.0.0.0/8", " 10.0.0.0/8",
		" v4 10.0.0.0/8", "v4  10.0.0.0/8", "v4 10.0.0.0 /8", "v4 10.0.0.0/ 8", "v4 10.0.0.0/8 ", "v4\t10.0.0.0/8", "v4 10.0.0.0/8\n",
		"V4 10.0.0.0/8", "v5 10.0.0.0/8", "0 10.0.0.0/8", "1 10.0.0.0/8", "vpn 10.0.0.0/8", "l6 0:0:0:0:0:0:0:0/0", "VPN4 7 10.0.0.0/8",
		"v4 10.0.0.0/08", "v4 10.0.0.0/00", "v4 10.0.0.0/+8", "v4 10.0.0.0/-1", "v4 10.0.0.0/-0", "v4 10.0.0.0/a", "v4 10.0.0.0/8/8",
		"v4 0.0.0.0/256", "v4 0.0.0.0/264", "v4 0.0.0.0/4294967296", "v4 0.0.0.0/18446744073709551616", "v6 0:0:0:0:0:0:0:0/129",
		"v4 7 10.0.0.0/8", "v6 7 0:0:0:0:0:0:0:0/0", "l4 7 10.0.0.0/8", "l4 0 10.0.0.0/8",
		"vpn4", "vpn4 ", "vpn4 7", "vpn4 7 ", "vpn4 10.0.0.0/8", "vpn4 07 10.0.0.0/8", "vpn4 +7 10.0.0.0/8", "vpn4 -7 10.0.0.0/8", "vpn4 a 10.0.0.0/8",
		"vpn4  10.0.0.0/8", "vpn4 7  10.0.0.0/8", "vpn4 7 7 10.0.0.0/8", "vpn4 18446744073709551616 10.0.0.0/8", "vpn4 " + strings.Repeat("9", 1000) + " 10.0.0.0/8",
		"v6 10.0.0.0/8", "v4 1:0:0:0:0:0:0:0/16", "l4 1:0:0:0:0:0:0:0/16", "vpn4 7 1:0:0:0:0:0:0:0/16", "vpn6 7 10.0.0.0/8",
		"v6 1::/32", "v6 0001:0:0:0:0:0:0:0/32", "v6 1:0:0:0:0:0:0:1/32", "v6 FE80:0:0:0:0:0:0:0/16",
		strings.Repeat("v4 ", 1<<15), strings.Repeat("/", 1<<16), "v4 0.0.0.0/" + strings.Repeat("0", 1<<16),
	} {
		if got, e := prim.Parse(s); e != api.ErrForm || got != (api.Prefix{}) {
			t.Errorf("Parse(%.60q) = %#v, %d", s, got, e)
		}
	}
}

// TestP1_7Back: each prefix and address comes back from its text, and the text is the model's.
func TestP1_7Back(t *testing.T) {
	for _, p := range pool() {
		s, e := prim.Text(p)
		if e != api.OK || s != wantText(p) {
			t.Errorf("Text(%#v) = %q, %d", p, s, e)
		}
		if got, e := prim.Parse(s); e != api.OK || got != p {
			t.Errorf("Parse(%q) = %#v, %d, want %#v", s, got, e, p)
		}
		a, e := prim.AddrText(p.Addr)
		if e != api.OK || a != wantAddr(p.Addr) {
			t.Errorf("AddrText(%x) = %q, %d", p.Addr, a, e)
		}
		if got, e := prim.Addr(a); e != api.OK || got != p.Addr {
			t.Errorf("Addr(%q) = %x, %d", a, got, e)
		}
	}
}

// TestP1_7Near: whatever is read is written back just so: no thing has two texts.
func TestP1_7Near(t *testing.T) {
	for _, s := range []string{"v4 10.0.0.0/8", "v6 1:0:0:0:0:0:0:0/32", "v6 fe80:0:0:0:0:0:0:a/128", "l4 0.0.0.0/0", "vpn4 7 10.1.0.0/16", "vpn6 18446744073709551615 0:0:0:0:0:0:0:0/0"} {
		for _, n := range near(s) {
			p, e := prim.Parse(n)
			if e == api.ErrForm && p == (api.Prefix{}) {
				continue
			}
			if e != api.OK || !mayBe(p) || wantText(p) != n {
				t.Errorf("Parse(%q) = %#v, %d", n, p, e)
			}
		}
	}
	for _, s := range []string{"1.2.3.4", "0.0.0.0", "255.255.255.255", "0:0:0:0:0:ffff:1:2", "fe80:10:a:0:0:0:0:1"} {
		for _, n := range near(s) {
			a, e := prim.Addr(n)
			if e == api.ErrForm && a == "" {
				continue
			}
			if e != api.OK || len(a) != 4 && len(a) != 16 || wantAddr(a) != n {
				t.Errorf("Addr(%q) = %x, %d", n, a, e)
			}
		}
	}
}
