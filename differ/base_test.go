package differ_test

import (
	"math"
	"reflect"
	"strconv"
	"strings"

	"herald/api"
)

var (
	ten  = api.Prefix{Fam: api.V4, Addr: "\x0a\x00\x00\x00", Len: 8}
	six  = api.Prefix{Fam: api.V6, Addr: "\x20\x01" + strings.Repeat("\x00", 14), Len: 16}
	next = "\x0a\x00\x00\x09"
	far  = "\x20\x01" + strings.Repeat("\x00", 13) + "\x09"

	edges   = []int{math.MinInt, -1, 0, 1, 2, 3, 4, 5, 6, 7, 8, 9, 10, 256, 4095, 65535, 1<<32 + 1, math.MaxInt}
	edges32 = []uint32{0, 1, 2, 3, 15, 16, 17, 100, 65000, 65001, 65002, 1<<20 - 1, math.MaxUint32}
	edges64 = []uint64{0, 1, 2, 3, 7, 1 << 32, 2<<48 + 65000<<32 + 1, math.MaxUint64}
)

// target is a route target.
func target(as, n uint64) uint64 { return 2<<48 + as<<32 + n }

// host is an address of 4 bytes.
func host(n int) string { return "\x0a\x00\x00" + string([]byte{byte(n)}) }

// small has what each configuration must have, and nothing else.
func small() api.Config {
	return api.Config{AS: 65000, Id: 0x0a000001, Addr: "\x0a\x00\x00\x01", Low: 16, High: 100}
}

// outer is an external peer that may be.
func outer(n int) api.Peer {
	return api.Peer{Name: "p" + strconv.Itoa(n), Addr: host(n), AS: 65001, Hold: 90, Retry: 30, Send: 1, Fams: []int{api.V4}}
}

// full has something of all.
func full() api.Config {
	c := small()
	c.Confed, c.Members, c.Cluster, c.High = 100, []uint32{65000, 65002}, 7, 1<<20-1
	c.Vrfs = []api.Vrf{
		{Name: "v", RD: 1, Import: []uint64{target(0, 0), target(65000, 1), target(65535, math.MaxUint32)}, Export: []uint64{target(65000, 1), target(65000, 2)}},
		{Name: "w", RD: math.MaxUint64},
		{Name: "x", RD: 2, Export: []uint64{target(1, 1)}},
	}
	c.Peers = []api.Peer{
		outer(2),
		{Name: "b", Range: api.Prefix{Fam: api.V4, Addr: "\x0a\x01\x00\x00", Len: 16}, AS: 65000, Retry: 1, Passive: true, Client: true, Fams: []int{api.V4, api.Vpn6}, Send: 8, Take: true, Most: 9, GR: true, Time: 4095, Mrai: 5, In: "p", Out: "q", SelfNext: true},
		{Name: "c", Addr: far, AS: 65002, Hold: 3, Retry: 30, Confed: true, Fams: []int{api.V6}, Send: 1, GR: true, Out: "q"},
		{Name: "d", Addr: host(4), AS: 7, Hold: 65535, Retry: 65535, Passive: true, Fams: []int{api.V4, api.V6}, Send: 2, Most: 4096, Mrai: 3600, In: "q", Vrf: "v"},
		{Name: "e", Addr: host(5), AS: 65000, Hold: 4, Retry: 2, Fams: []int{api.V4, api.V6, api.L4, api.Vpn4, api.Vpn6}, Send: 1},
	}
	c.Statics = []api.Static{{Prefix: ten, Next: next}, {Vrf: "v", Prefix: ten, Next: next}, {Vrf: "v", Prefix: six, Next: far}}
	c.Sets = []api.Set{
		{Name: "a", Kind: api.SetPrefix, Items: []api.Item{{Prefix: ten, Low: 8, High: 24}, {Prefix: api.Prefix{Fam: api.Vpn4, RD: 7, Addr: ten.Addr, Len: 8}, Low: 8, High: 32}, {Prefix: six, Low: 128, High: 128}}},
		{Name: "b", Kind: api.SetComm, Comms: []uint32{0, 65000<<16 + 7, api.NoExport}},
		{Name: "c", Kind: api.SetPath, Paths: [][]api.Atom{{{Kind: api.AtomAS, AS: 1}, {Kind: api.AtomAny}, {Kind: api.AtomMany}}, nil, {{Kind: api.AtomMany}}}},
		{Name: "d", Kind: api.SetPath},
	}
	c.Rules = []api.Policy{
		{Name: "p", Else: true, Terms: []api.Term{
			{Conds: []api.Cond{{Kind: api.IfPrefix, Name: "a"}, {Kind: api.IfPath, Not: true, Name: "c"}}, Actions: []api.Action{{Kind: api.DoDel, Name: "b"}, {Kind: api.DoReject}}},
			{Actions: []api.Action{{Kind: api.DoNext, Addr: far}}},
		}},
		{Name: "q"},
		{Name: "r", Terms: []api.Term{{Conds: []api.Cond{{Kind: api.IfComm, Name: "b"}}, Actions: []api.Action{{Kind: api.DoAdd, N: 5}, {Kind: api.DoAccept}}}}},
	}
	return c
}

// edits tells copies of a configuration that differ from it in one thing each: each number, text and bool is put at each of some others; of each list each entry is left out, doubled, or changed about with the next one, and one is put behind.
func edits(c api.Config, tell func(what string, c api.Config)) {
	var each func(what string, find func(v reflect.Value) reflect.Value)
	each = func(what string, find func(v reflect.Value) reflect.Value) {
		here := find(reflect.ValueOf(&c).Elem())
		change := func(how string, change func(v reflect.Value)) {
			d := clone(c)
			change(find(reflect.ValueOf(&d).Elem()))
			tell(what+" "+how, d)
		}
		switch here.Kind() {
		case reflect.Struct:
			for i := range here.NumField() {
				each(what+"."+here.Type().Field(i).Name, func(v reflect.Value) reflect.Value { return find(v).Field(i) })
			}
		case reflect.Slice:
			listEdits(here, change)
			for i := range here.Len() {
				each(what+"[]", func(v reflect.Value) reflect.Value { return find(v).Index(i) })
			}
		default:
			leafEdits(here, change)
		}
	}
	each("", func(v reflect.Value) reflect.Value { return v })
}

func listEdits(here reflect.Value, change func(how string, change func(v reflect.Value))) {
	change("emptied", func(v reflect.Value) { v.Set(reflect.MakeSlice(v.Type(), 0, 0)) })
	change("none", func(v reflect.Value) { v.SetZero() })
	change("more", func(v reflect.Value) { v.Set(reflect.Append(v, reflect.New(v.Type().Elem()).Elem())) })
	for i := range here.Len() {
		change("without", func(v reflect.Value) {
			v.Set(reflect.AppendSlice(v.Slice3(0, i, i), v.Slice(i+1, v.Len())))
		})
		change("doubled", func(v reflect.Value) {
			v.Set(reflect.AppendSlice(v.Slice3(0, i+1, i+1), v.Slice(i, v.Len())))
		})
		if i > 0 {
			change("turned", func(v reflect.Value) { reflect.Swapper(v.Interface())(i-1, i) })
		}
	}
}

func leafEdits(here reflect.Value, change func(how string, change func(v reflect.Value))) {
	switch here.Kind() {
	case reflect.Bool:
		change("turned", func(v reflect.Value) { v.SetBool(!v.Bool()) })
	case reflect.String:
		for _, s := range []string{"", "a", "b", "c", "p", "q", "r", "v", "y", "A b", host(2), host(3), far, here.String() + "a", here.String() + "\x00", strings.TrimSuffix(here.String(), "p")} {
			change("put", func(v reflect.Value) { v.SetString(s) })
		}
	case reflect.Int:
		for _, n := range append(edges, int(here.Int())+1, int(here.Int())-1) {
			change("put", func(v reflect.Value) { v.SetInt(int64(n)) })
		}
	case reflect.Uint32:
		for _, n := range append(edges32, uint32(here.Uint())+1, uint32(here.Uint())-1) {
			change("put", func(v reflect.Value) { v.SetUint(uint64(n)) })
		}
	default:
		for _, n := range append(edges64, here.Uint()+1, here.Uint()-1) {
			change("put", func(v reflect.Value) { v.SetUint(n) })
		}
	}
}
