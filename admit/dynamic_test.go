package admit_test

import (
	"strings"
	"testing"

	"herald/admit"
	"herald/api"
)

func TestP21_2Examples(t *testing.T) {
	r := in("r", "v4 10.0.0.0/8")
	wantDynamic(t, "example", r, addr("10.0.0.9"), "r-10-0-0-9", api.OK)
	wantDynamic(t, "example", r, addr("11.0.0.0"), "", api.ErrArg)
	wantDynamic(t, "example", at("a", "10.0.0.1"), addr("10.0.0.1"), "", api.ErrArg)
	wantDynamic(t, "example", r, addr("10.100.100.100"), "r-10-100-100-100", api.OK)
	wantDynamic(t, "example", in("abcdef", "v4 10.0.0.0/8"), addr("10.100.100.100"), "", api.ErrLong)
}

// A neighbour that has an Addr is no range, whether it is of the address or not, and with a Range beside it, too.
func TestP21_2AddrNotEmpty(t *testing.T) {
	for _, own := range []string{addr("10.0.0.9"), addr("10.0.0.1"), addr("1:0:0:0:0:0:0:9"), "\x00", "abc", strings.Repeat("x", 1<<12)} {
		p := full("r", "v4 10.0.0.0/8")
		p.Addr = own
		wantDynamic(t, "an Addr", p, addr("10.0.0.9"), "", api.ErrArg)
		wantDynamic(t, "an Addr, of itself", p, own, "", api.ErrArg)
		p.Range = api.Prefix{}
		wantDynamic(t, "an Addr alone", p, addr("10.0.0.9"), "", api.ErrArg)
	}
	// It is none for a long name, either: what may not be comes first.
	p := full(strings.Repeat("a", 16), "v4 10.0.0.0/8")
	p.Addr = addr("10.0.0.9")
	wantDynamic(t, "an Addr and a long Name", p, p.Addr, "", api.ErrArg)
}

func TestP21_2NotOfTheAddress(t *testing.T) {
	for _, c := range []struct{ what, text, address string }{
		{"behind", "v4 10.1.0.0/16", addr("10.2.0.0")},
		{"ahead", "v4 10.1.0.0/16", addr("10.0.255.255")},
		{"another host", "v4 10.1.0.1/32", addr("10.1.0.0")},
		{"V4 of V6", "v6 0:0:0:0:0:0:0:0/0", addr("0.0.0.0")},
		{"V6 of V4", "v4 0.0.0.0/0", addr("0:0:0:0:0:0:0:0")},
		{"no bytes", "v4 0.0.0.0/0", ""},
		{"3 bytes", "v4 0.0.0.0/0", "\x00\x00\x00"},
		{"5 bytes", "v4 0.0.0.0/0", "\x00\x00\x00\x00\x00"},
		{"15 bytes", "v6 0:0:0:0:0:0:0:0/0", strings.Repeat("\x00", 15)},
		{"17 bytes", "v6 0:0:0:0:0:0:0:0/0", strings.Repeat("\x00", 17)},
		{"a text", "v4 0.0.0.0/0", "10.0.0.1"},
	} {
		wantDynamic(t, c.what, full("r", c.text), c.address, "", api.ErrArg)
		wantDynamic(t, c.what+", a long Name", full(strings.Repeat("a", 99), c.text), c.address, "", api.ErrArg)
	}
	for what, x := range oddRanges() {
		p := full("r", "")
		p.Range = x
		wantDynamic(t, what, p, addr("10.0.0.1"), "", api.ErrArg)
		wantDynamic(t, what, p, addr("a00:0:0:0:0:0:0:1"), "", api.ErrArg)
		wantDynamic(t, what, p, x.Addr, "", api.ErrArg)
	}
	wantDynamic(t, "zero", api.Peer{}, "", "", api.ErrArg)
	wantDynamic(t, "zero", api.Peer{}, addr("10.0.0.1"), "", api.ErrArg)
}

func TestP21_2Names(t *testing.T) {
	v4, v6 := "v4 0.0.0.0/0", "v6 0:0:0:0:0:0:0:0/0"
	for _, c := range []struct{ name, of, address, want string }{
		{"r", v4, "0.0.0.0", "r-0-0-0-0"},
		{"a-b", v4, "1.2.3.4", "a-b-1-2-3-4"},
		{"a", v4, "9.10.99.100", "a-9-10-99-100"},
		{"abcdefgh", v4, "1.2.3.4", "abcdefgh-1-2-3-4"},     // 16 bytes
		{"abcdefghi", v4, "1.2.3.4", ""},                    // 17 bytes
		{"abcdefg", v4, "10.2.3.4", "abcdefg-10-2-3-4"},     // 16 bytes
		{"abcdefgh", v4, "10.2.3.4", ""},                    // 17 bytes
		{"", v4, "255.255.255.255", "-255-255-255-255"},     // 16 bytes
		{"a", v4, "255.255.255.255", ""},                    // 17 bytes
		{"a", v4, "55.255.255.255", "a-55-255-255-255"},     // 16 bytes
		{"", v6, "1:0:0:0:0:0:0:9", "-1-0-0-0-0-0-0-9"},     // 16 bytes
		{"", v6, "a:b:c:d:e:f:0:9", "-a-b-c-d-e-f-0-9"},     // 16 bytes
		{"", v6, "10:0:0:0:0:0:0:9", ""},                    // 17 bytes
		{"v", v6, "1:0:0:0:0:0:0:9", ""},                    // 17 bytes
		{"v", v6, farOff, ""},                               // 41 bytes
		{"a.b:c", v4, "1.2.3.4", "a.b:c-1-2-3-4"},           // of the text alone
		{"\xff\x80", v4, "1.2.3.4", "\xff\x80-1-2-3-4"},     // any bytes
		{"ab\xe2\x82", v4, "1.2.3.4", "ab\xe2\x82-1-2-3-4"}, // any bytes
		{strings.Repeat("a", 16), v4, "1.2.3.4", ""},
		{strings.Repeat("a", 17), v4, "1.2.3.4", ""},
		{strings.Repeat("a", 1<<16), v4, "1.2.3.4", ""},
	} {
		err := api.OK
		if c.want == "" {
			err = api.ErrLong
		}
		wantDynamic(t, "names", in(c.name, c.of), addr(c.address), c.want, err)
		wantDynamic(t, "names", full(c.name, c.of), addr(c.address), c.want, err)
	}
}

// Each length that a Name may have, with each length of an address' text.
func TestP21_2Lengths(t *testing.T) {
	fit, long := 0, 0
	for _, s := range []string{"1.2.3.4", "10.2.3.4", "10.20.3.4", "10.20.30.4", "10.20.30.40", "100.20.30.40", "100.200.30.40", "100.200.250.40", "100.200.250.240", "1:2:3:4:5:6:7:8"} {
		for n := range 20 {
			p := in(strings.Repeat("a", n), "v4 0.0.0.0/0")
			if strings.Contains(s, ":") {
				p.Range = prefix("v6 0:0:0:0:0:0:0:0/0")
			}
			if n+1+len(s) <= 16 {
				fit++
				wantDynamic(t, "fits", p, addr(s), modelName(p.Name, addr(s)), api.OK)
			} else {
				long++
				wantDynamic(t, "long", p, addr(s), "", api.ErrLong)
			}
		}
	}
	if fit != 46 || long != 154 {
		t.Errorf("%d fit, %d are too long", fit, long)
	}
}

// All other fields stay as they were; each one by itself, and all of them.
func TestP21_2OtherFields(t *testing.T) {
	const r = "v4 10.0.0.0/8"
	all := full("r", r)
	for what, set := range map[string]func(p *api.Peer){
		"none":     func(p *api.Peer) {},
		"all":      func(p *api.Peer) { *p = all },
		"AS":       func(p *api.Peer) { p.AS = 1<<32 - 1 },
		"Hold":     func(p *api.Peer) { p.Hold = -1 },
		"Retry":    func(p *api.Peer) { p.Retry = 1 << 62 },
		"Passive":  func(p *api.Peer) { p.Passive = true },
		"Client":   func(p *api.Peer) { p.Client = true },
		"Confed":   func(p *api.Peer) { p.Confed = true },
		"Fams":     func(p *api.Peer) { p.Fams = []int{5, -1, 5, 1} },
		"no Fams":  func(p *api.Peer) { p.Fams = []int{} },
		"Send":     func(p *api.Peer) { p.Send = 99 },
		"Take":     func(p *api.Peer) { p.Take = true },
		"Most":     func(p *api.Peer) { p.Most = -7 },
		"GR":       func(p *api.Peer) { p.GR = true },
		"Time":     func(p *api.Peer) { p.Time = 4095 },
		"Mrai":     func(p *api.Peer) { p.Mrai = 3 },
		"In":       func(p *api.Peer) { p.In = "No Name" },
		"Out":      func(p *api.Peer) { p.Out = "\xff" },
		"Vrf":      func(p *api.Peer) { p.Vrf = strings.Repeat("x", 100) },
		"SelfNext": func(p *api.Peer) { p.SelfNext = true },
	} {
		p := in("r", r)
		set(&p)
		wantDynamic(t, what, p, addr("10.0.0.9"), "r-10-0-0-9", api.OK)
	}
	all.Range = prefix("v6 1:0:0:0:0:0:0:0/16")
	all.Name = ""
	wantDynamic(t, "V6", all, addr("1:0:0:0:0:0:0:9"), "-1-0-0-0-0-0-0-9", api.OK)
}

// The one that came is none of which others come.
func TestP21_2OnlyOnce(t *testing.T) {
	d, _ := admit.Dynamic(full("r", "v4 10.0.0.0/8"), addr("10.0.0.9"))
	wantDynamic(t, "again", d, addr("10.0.0.9"), "", api.ErrArg)
	wantDynamic(t, "another one", d, addr("10.0.0.8"), "", api.ErrArg)
}
