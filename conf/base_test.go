package conf_test

import (
	"math"
	"strconv"
	"strings"

	"herald/api"
)

var (
	ten  = api.Prefix{Fam: api.V4, Addr: "\x0a\x00\x00\x00", Len: 8}
	six  = api.Prefix{Fam: api.V6, Addr: "\x20\x01" + strings.Repeat("\x00", 14), Len: 16}
	next = "\x0a\x00\x00\x09"
	far  = "\x20\x01" + strings.Repeat("\x00", 13) + "\x09"

	names    = []string{"a", "z", "a-", "a--", "a-0", "a0", "a9z", "as", "id", "addr", "range", "hold", "fams", "v4", "vpn6", "passive", "client", "confed", "take", "gr", "selfnext", "in", "out", "vrf", "accept", "reject", "prefix", "comm", "path", "if", "then", "a23456789012345", "a234567890123456", "z---------------", "zzzzzzzzzzzzzzzz"}
	notNames = []string{"", "A", "Z", "1", "1a", "9", "-", "-a", "_", "aA", "aZb", "a_", "a.b", "a b", "a ", " a", " ", "  ", "a\n", "\na", "\n", "a\r", "a\t", "a\x00", "\x00", "a:b", "a`", "`a", "a{", "{a", "a@", "a[", "\xe4", "a\xe4", "aä", "a\xff", "*", ".", "a234567890123456-", "a2345678901234567", strings.Repeat("a", 256), strings.Repeat("a", 257), strings.Repeat("a", 15) + "A"}
	edges    = []int{math.MinInt, math.MinInt + 1, math.MinInt32, -1 << 32, -65536, -65535, -4096, -5, -2, -1, 0, 1, 2, 3, 4, 5, 6, 7, 8, 9, 10, 255, 256, 257, 258, 259, 264, 3599, 3600, 3601, 4094, 4095, 4096, 4097, 65534, 65535, 65536, 65537, 65538, 65539, 65544, 1<<31 - 1, 1 << 31, 1<<32 - 1, 1 << 32, 1<<32 + 1, 1<<32 + 3, 1<<32 + 65535, 1 << 48, math.MaxInt - 1, math.MaxInt}
	edges32  = []uint32{0, 1, 2, 3, 15, 16, 17, 18, 100, 255, 256, 257, 272, 65000, 65001, 65002, 65535, 65536, 65537, 65552, 1<<20 - 2, 1<<20 - 1, 1 << 20, 1<<20 + 1, 1<<31 - 1, 1 << 31, math.MaxUint32 - 1, math.MaxUint32}
	edges64  = []uint64{0, 1, 2, 3, 7, 255, 256, 65535, 65536, 1<<32 - 1, 1 << 32, 1<<32 + 1, 1<<48 - 1, 1 << 48, 1<<49 - 1, 1 << 49, 1<<49 + 1, 2<<48 + 65000<<32 + 1, 3<<48 - 1, 3 << 48, 1<<50 + 1<<49, 0x0102 << 48, 0x0202 << 48, 0x8002 << 48, 1 << 63, math.MaxUint64 - 1, math.MaxUint64}
)

// target is a route target.
func target(as, n uint64) uint64 { return 2<<48 + as<<32 + n }

// host is an address of 4 bytes.
func host(n int) string { return "\x0a\x00\x00" + string([]byte{byte(n)}) }

// small has what each configuration must have, and nothing else.
func small() api.Config {
	return api.Config{AS: 65000, Id: 0x0a000001, Addr: "\x0a\x00\x00\x01", Low: 16, High: 100}
}

// outer is an external peer that may be.
func outer(n int) api.Peer {
	return api.Peer{Name: "p" + strconv.Itoa(n), Addr: host(n), AS: 65001, Hold: 90, Retry: 30, Send: 1, Fams: []int{api.V4}}
}

// full has something of all.
func full() api.Config {
	c := small()
	c.Confed, c.Members, c.Cluster, c.High = 100, []uint32{65000, 65002}, 7, 1<<20-1
	c.Vrfs = []api.Vrf{
		{Name: "v", RD: 1, Import: []uint64{target(0, 0), target(65000, 1), target(65535, math.MaxUint32)}, Export: []uint64{target(65000, 1), target(65000, 2)}},
		{Name: "w", RD: math.MaxUint64},
		{Name: "x", RD: 2, Export: []uint64{target(1, 1)}},
	}
	c.Peers = []api.Peer{
		outer(2),
		{Name: "b", Range: api.Prefix{Fam: api.V4, Addr: "\x0a\x01\x00\x00", Len: 16}, AS: 65000, Retry: 1, Passive: true, Client: true, Fams: []int{api.V4, api.Vpn6}, Send: 8, Take: true, Most: 9, GR: true, Time: 4095, Mrai: 5, In: "p", Out: "q", SelfNext: true},
		{Name: "c", Addr: far, AS: 65002, Hold: 3, Retry: 30, Confed: true, Fams: []int{api.V6}, Send: 1, GR: true, Out: "q"},
		{Name: "d", Addr: host(4), AS: 7, Hold: 65535, Retry: 65535, Passive: true, Fams: []int{api.V4, api.V6}, Send: 2, Most: 4096, Mrai: 3600, In: "q", Vrf: "v"},
		{Name: "e", Addr: host(5), AS: 65000, Hold: 4, Retry: 2, Fams: []int{api.V4, api.V6, api.L4, api.Vpn4, api.Vpn6}, Send: 1},
	}
	c.Statics = []api.Static{{Prefix: ten, Next: next}, {Vrf: "v", Prefix: ten, Next: next}, {Vrf: "v", Prefix: six, Next: far}}
	c.Sets = []api.Set{
		{Name: "a", Kind: api.SetPrefix, Items: []api.Item{{Prefix: ten, Low: 8, High: 24}, {Prefix: api.Prefix{Fam: api.Vpn4, RD: 7, Addr: ten.Addr, Len: 8}, Low: 8, High: 32}, {Prefix: six, Low: 128, High: 128}}},
		{Name: "b", Kind: api.SetComm, Comms: []uint32{0, 65000<<16 + 7, api.NoExport}},
		{Name: "c", Kind: api.SetPath, Paths: [][]api.Atom{{{Kind: api.AtomAS, AS: 1}, {Kind: api.AtomAny}, {Kind: api.AtomMany}}, nil, {{Kind: api.AtomMany}}}},
		{Name: "d", Kind: api.SetPath},
	}
	c.Rules = []api.Policy{
		{Name: "p", Else: true, Terms: []api.Term{
			{Conds: []api.Cond{{Kind: api.IfPrefix, Name: "a"}, {Kind: api.IfPath, Not: true, Name: "c"}}, Actions: []api.Action{{Kind: api.DoDel, Name: "b"}, {Kind: api.DoReject}}},
			{Actions: []api.Action{{Kind: api.DoNext, Addr: far}}},
		}},
		{Name: "q"},
		{Name: "r", Terms: []api.Term{{Conds: []api.Cond{{Kind: api.IfComm, Name: "b"}}, Actions: []api.Action{{Kind: api.DoAdd, N: 5}, {Kind: api.DoAccept}}}}},
	}
	return c
}

// fullText is the text of full, by hand.
const fullText = "as 65000\nid 10.0.0.1\naddr 10.0.0.1\nconfed 100\nmember 65000\nmember 65002\ncluster 7\nlabels 16 1048575\n" +
	"vrf v 1\nimport v 0:0\nimport v 65000:1\nimport v 65535:4294967295\nexport v 65000:1\nexport v 65000:2\n" +
	"vrf w 18446744073709551615\nvrf x 2\nexport x 1:1\n" +
	"peer p2 addr 10.0.0.2 as 65001 hold 90 retry 30 mrai 0 send 1 most 0 time 0 fams v4\n" +
	"peer b range v4 10.1.0.0/16 as 65000 hold 0 retry 1 mrai 5 send 8 most 9 time 4095 fams v4 vpn6 passive client take gr selfnext in p out q\n" +
	"peer c addr 2001:0:0:0:0:0:0:9 as 65002 hold 3 retry 30 mrai 0 send 1 most 0 time 0 fams v6 confed gr out q\n" +
	"peer d addr 10.0.0.4 as 7 hold 65535 retry 65535 mrai 3600 send 2 most 4096 time 0 fams v4 v6 passive in q vrf v\n" +
	"peer e addr 10.0.0.5 as 65000 hold 4 retry 2 mrai 0 send 1 most 0 time 0 fams v4 v6 l4 vpn4 vpn6\n" +
	"static - v4 10.0.0.0/8 10.0.0.9\nstatic v v4 10.0.0.0/8 10.0.0.9\nstatic v v6 2001:0:0:0:0:0:0:0/16 2001:0:0:0:0:0:0:9\n" +
	"set a prefix\nitem a v4 10.0.0.0/8 8 24\nitem a vpn4 7 10.0.0.0/8 8 32\nitem a v6 2001:0:0:0:0:0:0:0/16 128 128\n" +
	"set b comm\nitem b 0:0\nitem b 65000:7\nitem b no-export\n" +
	"set c path\nitem c 1 . *\nitem c -\nitem c *\nset d path\n" +
	"policy p accept\nterm p if prefix a and not path c then del b and reject\nterm p then next 2001:0:0:0:0:0:0:9\n" +
	"policy q reject\npolicy r reject\nterm r if comm b then add 0:5 and accept\n"

// Of those that each configuration has, and of a peer that may be, the lines.
const (
	smallText = "as 65000\nid 10.0.0.1\naddr 10.0.0.1\nlabels 16 100\n"
	peerText  = "peer a addr 10.0.0.2 as 65001 hold 90 retry 30 mrai 0 send 1 most 0 time 0 fams v4\n"
)
