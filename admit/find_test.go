package admit_test

import (
	"slices"
	"strings"
	"testing"

	"herald/admit"
	"herald/api"
)

const farOff = "ffff:ffff:ffff:ffff:ffff:ffff:ffff:ffff"

func TestP21_1Examples(t *testing.T) {
	l := []api.Peer{at("a", "10.0.0.1"), in("r", "v4 10.0.0.0/8"), in("s", "v4 10.1.0.0/16")}
	wantFind(t, "example", l, addr("10.0.0.1"), 0)
	wantFind(t, "example", l, addr("10.1.2.3"), 2)
	wantFind(t, "example", l, addr("10.2.0.0"), 1)
	wantFind(t, "example", l, addr("11.0.0.0"), -1)
	wantFind(t, "example", l, "abc", -1)
}

// Of an address that has not 4 or 16 bytes there is no neighbour, not even one that has just it as Addr.
func TestP21_1NoAddress(t *testing.T) {
	for n := range 40 {
		if n == 4 || n == 16 {
			continue
		}
		for _, b := range []string{"\x00", "\x0a", "\xff"} {
			s := strings.Repeat(b, n)
			l := []api.Peer{{Name: "x", Addr: s}, {}, in("r", "v4 0.0.0.0/0"), in("s", "v6 0:0:0:0:0:0:0:0/0"), {Name: "y", Range: api.Prefix{Fam: api.V4, Addr: s, Len: 0}}}
			wantFind(t, "no address", l, s, -1)
		}
	}
	wantFind(t, "a long one", []api.Peer{in("r", "v4 0.0.0.0/0")}, strings.Repeat("\x0a", 1<<16), -1)
}

func TestP21_1EmptyList(t *testing.T) {
	for _, l := range [][]api.Peer{nil, {}} {
		wantFind(t, "empty list", l, addr("10.0.0.1"), -1)
		wantFind(t, "empty list", l, addr("1:0:0:0:0:0:0:9"), -1)
		wantFind(t, "empty list", l, "", -1)
	}
}

// What stands behind the end of a list counts for nothing.
func TestP21_1BehindTheEnd(t *testing.T) {
	all := []api.Peer{in("r", "v4 10.0.0.0/8"), at("a", "10.0.0.1")}
	if n, ok := admit.Find(all[:1], addr("10.0.0.1")); n != 0 || !ok {
		t.Errorf("ahead of the end: %d, %t", n, ok)
	}
	if n, ok := admit.Find(all[:0], addr("10.0.0.1")); n != 0 || ok {
		t.Errorf("an empty list: %d, %t", n, ok)
	}
}

func TestP21_1TheAddressItself(t *testing.T) {
	a := at("a", "10.1.0.1")
	near, host, all := in("s", "v4 10.1.0.0/16"), in("h", "v4 10.1.0.1/32"), in("d", "v4 0.0.0.0/0")
	for _, c := range []struct {
		what string
		l    []api.Peer
		want int
	}{
		{"alone", []api.Peer{a}, 0},
		{"behind ranges", []api.Peer{all, near, host, a}, 3},
		{"ahead of ranges", []api.Peer{a, host, near, all}, 0},
		{"between ranges", []api.Peer{host, a, near}, 1},
		{"two with the same one", []api.Peer{near, a, a, host}, 1},
		{"two with the same one, of unlike names", []api.Peer{at("b", "10.1.0.1"), a}, 0},
		{"behind others", []api.Peer{at("b", "10.1.0.2"), at("c", "1:0:0:0:0:0:0:1"), a}, 2},
		{"with a Range beside it", []api.Peer{{Name: "b", Range: prefix("v4 10.0.0.0/8")}, {Name: "a", Addr: addr("10.1.0.1"), Range: prefix("v4 11.0.0.0/8")}}, 1},
	} {
		wantFind(t, c.what, c.l, addr("10.1.0.1"), c.want)
	}
	six := at("v", "1:0:0:0:0:0:0:9")
	wantFind(t, "of 16 bytes", []api.Peer{in("w", "v6 1:0:0:0:0:0:0:9/128"), a, six}, six.Addr, 2)
}

func TestP21_1Ranges(t *testing.T) {
	r, s, d := in("r", "v4 10.0.0.0/8"), in("s", "v4 10.1.0.0/16"), in("d", "v4 0.0.0.0/0")
	for _, c := range []struct {
		what    string
		l       []api.Peer
		address string
		want    int
	}{
		{"the longer one behind", []api.Peer{r, s}, "10.1.0.1", 1},
		{"the longer one ahead", []api.Peer{s, r}, "10.1.0.1", 0},
		{"the longest one between", []api.Peer{d, r, s, r, d}, "10.1.0.1", 2},
		{"one bit longer", []api.Peer{in("x", "v4 10.1.0.0/23"), in("y", "v4 10.1.0.0/24"), in("z", "v4 10.1.0.0/22")}, "10.1.0.1", 1},
		{"of equal ones the first one", []api.Peer{r, s, s, in("t", "v4 10.1.0.0/16")}, "10.1.0.1", 1},
		{"of equal ones of Len 0 the first one", []api.Peer{d, d}, "10.1.0.1", 0},
		{"the longest one does not cover", []api.Peer{r, s}, "10.2.0.1", 0},
		{"none covers", []api.Peer{r, s, in("q", "v4 12.0.0.0/6")}, "11.0.0.0", -1},
		{"of Len 0", []api.Peer{at("a", "10.1.0.1"), d}, "255.255.255.255", 1},
		{"of Len 0, of nought", []api.Peer{d}, "0.0.0.0", 0},
		{"the host's prefix", []api.Peer{r, in("h", "v4 10.1.0.1/32"), in("g", "v4 10.1.0.0/31")}, "10.1.0.1", 1},
		{"the host's prefix of another one", []api.Peer{in("h", "v4 10.1.0.2/32"), in("g", "v4 10.1.0.0/31")}, "10.1.0.1", 1},
		{"the first address of a range", []api.Peer{s}, "10.1.0.0", 0},
		{"the last address of a range", []api.Peer{s}, "10.1.255.255", 0},
		{"just behind a range", []api.Peer{s}, "10.2.0.0", -1},
		{"just ahead of a range", []api.Peer{s}, "10.0.255.255", -1},
		{"V6", []api.Peer{d, in("w", "v6 1:0:0:0:0:0:0:0/16"), in("v", "v6 0:0:0:0:0:0:0:0/0")}, "1:0:0:0:0:0:0:9", 1},
		{"V6 of Len 0", []api.Peer{d, in("w", "v6 1:0:0:0:0:0:0:0/16"), in("v", "v6 0:0:0:0:0:0:0:0/0")}, farOff, 2},
		{"V6, the host's prefix", []api.Peer{in("w", "v6 1:0:0:0:0:0:0:8/127"), in("h", "v6 1:0:0:0:0:0:0:9/128")}, "1:0:0:0:0:0:0:9", 1},
		{"V4 beside V6", []api.Peer{in("v", "v6 0:0:0:0:0:0:0:0/0"), d}, "0.0.0.0", 1},
		{"V4 not of V6", []api.Peer{in("v", "v6 0:0:0:0:0:0:0:0/0")}, "10.1.0.1", -1},
		{"V6 not of V4", []api.Peer{d}, "0:0:0:0:0:0:0:0", -1},
	} {
		wantFind(t, c.what, c.l, addr(c.address), c.want)
	}
}

// A neighbour that has an Addr is of that one alone, whatever its Range says.
func TestP21_1AddrAndRange(t *testing.T) {
	both := api.Peer{Name: "b", Addr: addr("10.0.0.9"), Range: prefix("v4 10.0.0.0/8")}
	wantFind(t, "of the Range", []api.Peer{both}, addr("10.0.0.1"), -1)
	wantFind(t, "of the Addr", []api.Peer{both}, addr("10.0.0.9"), 0)
	wantFind(t, "beside a range", []api.Peer{both, in("d", "v4 0.0.0.0/0")}, addr("10.0.0.1"), 1)
	for _, odd := range []string{"\x00", "abc", "10.0.0.9", strings.Repeat("\x0a", 17)} {
		both.Addr = odd
		wantFind(t, "an Addr that is none", []api.Peer{both}, addr("10.0.0.1"), -1)
	}
}

// oddRanges are prefixes that cover no host.
func oddRanges() map[string]api.Prefix {
	return map[string]api.Prefix{
		"zero":                     {},
		"no family":                {Addr: addr("10.0.0.0"), Len: 8},
		"family below":             {Fam: -1, Addr: addr("10.0.0.0"), Len: 8},
		"family above":             {Fam: 6, Addr: addr("10.0.0.0"), Len: 8},
		"bits behind Len":          {Fam: api.V4, Addr: addr("10.0.0.1"), Len: 8},
		"a bit just behind Len":    {Fam: api.V4, Addr: addr("10.128.0.0"), Len: 8},
		"Len below 0":              {Fam: api.V4, Addr: addr("0.0.0.0"), Len: -1},
		"Len 33":                   {Fam: api.V4, Addr: addr("10.0.0.1"), Len: 33},
		"huge Len":                 {Fam: api.V4, Addr: addr("10.0.0.1"), Len: 1 << 62},
		"an RD":                    {Fam: api.V4, Addr: addr("10.0.0.0"), Len: 8, RD: 1},
		"short Addr":               {Fam: api.V4, Addr: "\x0a\x00\x00", Len: 8},
		"no Addr":                  {Fam: api.V4},
		"long Addr":                {Fam: api.V4, Addr: addr("1:0:0:0:0:0:0:0"), Len: 8},
		"V6 with an address of V4": {Fam: api.V6, Addr: addr("10.0.0.0"), Len: 8},
		"L4":                       prefix("l4 10.0.0.0/8"),
		"Vpn4":                     prefix("vpn4 0 10.0.0.0/8"),
		"Vpn4 with an RD":          prefix("vpn4 7 10.0.0.0/8"),
		"Vpn6":                     prefix("vpn6 0 0:0:0:0:0:0:0:0/0"),
	}
}

func TestP21_1OddRanges(t *testing.T) {
	for what, x := range oddRanges() {
		odd := api.Peer{Name: "o", Range: x}
		for _, s := range []string{"10.0.0.1", "0.0.0.0", "a00:1:0:0:0:0:0:0", "0:0:0:0:0:0:0:0"} {
			wantFind(t, what, []api.Peer{odd}, addr(s), -1)
		}
		wantFind(t, what, []api.Peer{odd, in("r", "v4 0.0.0.0/0"), odd}, addr("10.0.0.1"), 1)
	}
}

// All addresses round a range, by each Len.
func TestP21_1EachLen(t *testing.T) {
	for _, s := range []string{"170.85.170.85", "aaaa:5555:aaaa:5555:aaaa:5555:aaaa:5555"} {
		address := addr(s)
		size := 8 * len(address)
		var l []api.Peer
		for n := range size + 1 {
			p := api.Prefix{Fam: api.V4, Addr: cut(address, n), Len: n}
			if size == 128 {
				p.Fam = api.V6
			}
			l = append(l, api.Peer{Name: "r", Range: p})
		}
		for bit := range size {
			// The first bits alone are the same: just the ranges up to that bit cover it.
			wantFind(t, "rising", l, turned(address, bit), bit)
			back := slices.Clone(l)
			slices.Reverse(back)
			wantFind(t, "falling", back, turned(address, bit), size-bit)
		}
		wantFind(t, "itself", l, address, size)
	}
}

// cut keeps the first n bits.
func cut(address string, n int) string {
	b := []byte(address)
	for i := n; i < 8*len(b); i++ {
		b[i/8] &^= 0x80 >> (i % 8)
	}
	return string(b)
}

// turned has one bit turned about.
func turned(address string, bit int) string {
	b := []byte(address)
	b[bit/8] ^= 0x80 >> (bit % 8)
	return string(b)
}
