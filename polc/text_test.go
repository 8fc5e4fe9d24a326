package polc_test

import (
	"math/rand"
	"slices"
	"strconv"
	"strings"
	"testing"

	"herald/api"
)

func TestP16_3Examples(t *testing.T) {
	wantTerm(t, "if prefix a and not origin igp then pref 200 and accept", api.Term{
		Conds:   []api.Cond{{Kind: api.IfPrefix, Name: "a"}, {Kind: api.IfOrigin, Not: true, N: api.Igp}},
		Actions: []api.Action{{Kind: api.DoPref, N: 200}, {Kind: api.DoAccept}},
	})
	wantTerm(t, "then reject", then(reject))
	for _, s := range []string{"then accept and med 1", "if then accept", "then prepend 9", "then  reject", ""} {
		wantNoTerm(t, s)
	}
	wantTerm(t, "if peer and then add 65000:1 and add no-export", api.Term{
		Conds:   []api.Cond{{Kind: api.IfPeer, Name: "and"}},
		Actions: []api.Action{{Kind: api.DoAdd, N: 65000<<16 | 1}, {Kind: api.DoAdd, N: api.NoExport}},
	})
	wantNoText(t, api.Term{})
	wantNoText(t, api.Term{Conds: []api.Cond{{Kind: api.IfPeer, Name: "a"}}})
}

// Each row of the document, by hand.
func TestP16_3Rows(t *testing.T) {
	for text, c := range map[string]api.Cond{
		"prefix a":           {Kind: api.IfPrefix, Name: "a"},
		"comm b-1":           {Kind: api.IfComm, Name: "b-1"},
		"path c":             {Kind: api.IfPath, Name: "c"},
		"peer d":             {Kind: api.IfPeer, Name: "d"},
		"not peer d":         {Kind: api.IfPeer, Name: "d", Not: true},
		"origin igp":         {Kind: api.IfOrigin},
		"origin egp":         {Kind: api.IfOrigin, N: api.Egp},
		"origin incomplete":  {Kind: api.IfOrigin, N: api.Incomplete},
		"not origin igp":     {Kind: api.IfOrigin, Not: true},
		"length 0":           {Kind: api.IfLength},
		"length 65535":       {Kind: api.IfLength, N: 65535},
		"not length 10":      {Kind: api.IfLength, N: 10, Not: true},
		"fam v4":             {Kind: api.IfFam, N: api.V4},
		"fam v6":             {Kind: api.IfFam, N: api.V6},
		"fam l4":             {Kind: api.IfFam, N: api.L4},
		"fam vpn4":           {Kind: api.IfFam, N: api.Vpn4},
		"not fam vpn6":       {Kind: api.IfFam, N: api.Vpn6, Not: true},
		"not prefix prefix":  {Kind: api.IfPrefix, Name: "prefix", Not: true},
		"comm not":           {Kind: api.IfComm, Name: "not"},
		"not comm not":       {Kind: api.IfComm, Name: "not", Not: true},
		"path origin-------": {Kind: api.IfPath, Name: "origin-------"},
	} {
		wantText(t, iff(c), "if "+text+" then accept")
	}
	for text, a := range map[string]api.Action{
		"accept":                       {Kind: api.DoAccept},
		"reject":                       {Kind: api.DoReject},
		"no-med":                       {Kind: api.DoNoMed},
		"pref 0":                       {Kind: api.DoPref},
		"pref 4294967295":              {Kind: api.DoPref, N: 4294967295},
		"med 0":                        {Kind: api.DoMed},
		"med 2147483648":               {Kind: api.DoMed, N: 1 << 31},
		"add 0:0":                      {Kind: api.DoAdd},
		"add 65535:65535":              {Kind: api.DoAdd, N: 4294967295},
		"add no-export":                {Kind: api.DoAdd, N: api.NoExport},
		"add no-advertise":             {Kind: api.DoAdd, N: api.NoAdvertise},
		"add no-export-subconfed":      {Kind: api.DoAdd, N: api.NoConfed},
		"del and":                      {Kind: api.DoDel, Name: "and"},
		"prepend 1":                    {Kind: api.DoPrepend, N: 1},
		"prepend 8":                    {Kind: api.DoPrepend, N: 8},
		"next 10.0.0.1":                {Kind: api.DoNext, Addr: "\x0a\x00\x00\x01"},
		"next 2001:db8:0:0:0:0:0:a":    {Kind: api.DoNext, Addr: "\x20\x01\x0d\xb8" + strings.Repeat("\x00", 11) + "\x0a"},
		"origin igp":                   {Kind: api.DoOrigin},
		"origin egp":                   {Kind: api.DoOrigin, N: api.Egp},
		"origin incomplete":            {Kind: api.DoOrigin, N: api.Incomplete},
		"next 0.0.0.0":                 {Kind: api.DoNext, Addr: "\x00\x00\x00\x00"},
		"next 0:0:0:0:0:0:0:0":         {Kind: api.DoNext, Addr: strings.Repeat("\x00", 16)},
		"next 255.255.255.255":         {Kind: api.DoNext, Addr: "\xff\xff\xff\xff"},
		"del no-med":                   {Kind: api.DoDel, Name: "no-med"},
		"del a234567890123456":         {Kind: api.DoDel, Name: "a234567890123456"},
		"add 255:65281":                {Kind: api.DoAdd, N: 255<<16 | 0xff01},
		"next 97.98.99.100":            {Kind: api.DoNext, Addr: "abcd"},
		"next ffff:0:0:0:0:0:0:1":      {Kind: api.DoNext, Addr: "\xff\xff" + strings.Repeat("\x00", 13) + "\x01"},
		"next 1:20:300:4000:0:0:0:ffe": {Kind: api.DoNext, Addr: "\x00\x01\x00\x20\x03\x00\x40\x00\x00\x00\x00\x00\x00\x00\x0f\xfe"},
	} {
		wantText(t, then(a), "then "+text)
	}
}

// Names may be words of the language.
func TestP16_3Words(t *testing.T) {
	for text, conds := range map[string][]api.Cond{
		"if peer then then accept":                                 {{Kind: 4, Name: "then"}},
		"if peer if then accept":                                   {{Kind: 4, Name: "if"}},
		"if peer not then accept":                                  {{Kind: 4, Name: "not"}},
		"if not peer not then accept":                              {{Kind: 4, Name: "not", Not: true}},
		"if peer and and peer and then accept":                     {{Kind: 4, Name: "and"}, {Kind: 4, Name: "and"}},
		"if peer then and peer then then accept":                   {{Kind: 4, Name: "then"}, {Kind: 4, Name: "then"}},
		"if prefix prefix and comm comm and path path then accept": {{Kind: 1, Name: "prefix"}, {Kind: 2, Name: "comm"}, {Kind: 3, Name: "path"}},
		"if peer accept then accept":                               {{Kind: 4, Name: "accept"}},
		"if comm length and length 3 then accept":                  {{Kind: 2, Name: "length"}, {Kind: 6, N: 3}},
	} {
		wantText(t, iff(conds...), text)
	}
	wantText(t, then(del("and"), del("then"), accept), "then del and and del then and accept")
	wantText(t, then(del("accept"), reject), "then del accept and reject")
	for _, s := range []string{
		"if peer then accept", "if peer and accept", "if peer and then", "if peer and and then accept", "if peer then then", "if peer peer a then accept",
		"then del and accept", "then del and and", "then del del a", "if not then accept", "if not not then accept", "if peer a and then accept",
		"if peer a then then accept", "if peer a not then accept", "if peer not a then accept", "if peer a and and peer b then accept",
	} {
		wantNoTerm(t, s)
	}
}

// What is no term's text: by hand.
func TestP16_3NoTerms(t *testing.T) {
	for _, s := range []string{
		"", " ", "  ", "if", "if ", "then", "then ", " then", " then accept", "then accept ", "then  accept", "then\taccept", "then accept\n", "then\naccept", "then\u00a0accept", "\x00", "accept", "and", "not", "and then accept", "then and accept", "then accept and", "then accept and ", "then then accept", "if if peer a then accept",
		"THEN accept", "Then accept", "then Accept", "then ACCEPT", "if Peer a then accept", "IF peer a then accept", "if peer a THEN accept", "if peer a AND peer b then accept", "if NOT peer a then accept",
		"if then accept", "if accept", "if peer a", "if peer a ", "if peer a then", "if peer a then ", "if peer a accept", "if peer a and peer b", "if peer a, peer b then accept", "if peer a or peer b then accept", "if peer a peer b then accept", "peer a then accept", "not peer a then accept", "if peer a if peer b then accept", "then accept if peer a",
		"then accept then accept", "then no-med then accept", "then no-med accept", "then accept accept", "then accept and accept", "then accept and reject", "then reject and accept", "then accept and no-med", "then reject and no-med and accept", "then no-med and accept and no-med",
		"then accept 1", "then no-med 1", "then no-med 0", "then reject a", "then no med", "then no-pref", "then pref", "then pref and accept", "then pref a", "then pref -1", "then pref +1", "then pref 01", "then pref 00", "then pref -0", "then pref 0x1", "then pref 1_0", "then pref 1e1", "then pref 1.0", "then pref 4294967296", "then pref 4294967297", "then pref 18446744073709551616", "then pref 18446744073709551617", "then pref 99999999999999999999999999", "then pref 1 2", "then pref  1", "then pref ١",
		"then med", "then med 01", "then med -1", "then med 4294967296", "then med 1 1", "then med igp",
		"then prepend", "then prepend 0", "then prepend 9", "then prepend 10", "then prepend 01", "then prepend 08", "then prepend -1", "then prepend 256", "then prepend 257", "then prepend 4294967297", "then prepend a",
		"then add", "then add 1", "then add a", "then add 1:", "then add :1", "then add :", "then add 1:2:3", "then add 01:2", "then add 1:02", "then add 65536:0", "then add 0:65536", "then add 65535:65281", "then add 65535:65282", "then add 65535:65283", "then add no-export no-export", "then add NO-EXPORT", "then add 1: 2", "then add 1:-2", "then add 4294967295",
		"then del", "then del ", "then del A", "then del 1", "then del -", "then del 1:1", "then del a b", "then del a234567890123456-", "then del ä",
		"then next", "then next 10.0.0", "then next 10.0.0.1.1", "then next 10.0.0.256", "then next 010.0.0.1", "then next 10.0.0.1/32", "then next ::", "then next ::1", "then next 1:2:3:4:5:6:7", "then next 1:2:3:4:5:6:7:8:9", "then next 1:2:3:4:5:6:7:A", "then next 1:2:3:4:5:6:7:08", "then next 1:2:3:4:5:6:7:10000", "then next a", "then next v4 10.0.0.1", "then next self", "then next \x0a\x00\x00\x01",
		"then origin", "then origin 0", "then origin IGP", "then origin ig", "then origin igpp", "then origin none", "then origin ", "then origin igp egp", "then origin v4", "then not origin igp", "then not accept",
		"then peer a", "then prefix a", "then comm a", "then path a", "then length 1", "then fam v4", "then continue", "then drop", "then ", "then communities",
		"if pref 1 then accept", "if med 1 then accept", "if accept then accept", "if add 1:1 then accept", "if next 10.0.0.1 then accept", "if del a then accept", "if prepend 1 then accept", "if no-med then accept",
		"if prefix then accept", "if prefix  then accept", "if prefix A then accept", "if prefix 1 then accept", "if prefix a b then accept", "if prefix v4 10.0.0.0/8 then accept", "if prefix a234567890123456- then accept", "if comm 1:1 then accept", "if comm no_export then accept", "if path 1 then accept", "if path * then accept", "if path . then accept", "if peer - then accept", "if peer -a then accept", "if peer ä then accept", "if peer 10.0.0.1 then accept",
		"if origin then accept", "if origin 0 then accept", "if origin IGP then accept", "if origin  then accept", "if origin igp egp then accept", "if origin a then accept", "if not origin then accept",
		"if length then accept", "if length 65536 then accept", "if length 65537 then accept", "if length -1 then accept", "if length 03 then accept", "if length 00 then accept", "if length +3 then accept", "if length 4294967295 then accept", "if length 4294967296 then accept", "if length 4294967299 then accept", "if length 18446744073709551619 then accept", "if length a then accept", "if length 3 4 then accept", "if length  then accept", "if length 3.0 then accept",
		"if fam then accept", "if fam 1 then accept", "if fam V4 then accept", "if fam v5 then accept", "if fam l6 then accept", "if fam vpn then accept", "if fam vpn4 vpn6 then accept", "if fam  then accept", "if fam igp then accept", "if fam v then accept",
		"if not then accept", "if not  then accept", "if not not peer a then accept", "if not not origin igp then accept", "if peer not a then accept", "if not if peer a then accept", "ifpeer a then accept", "if peer a thenaccept", "if  peer a then accept", "if peer  a then accept", "if peer a  then accept", "if peer a then  accept", "if peer a  and peer b then accept", "if peer a and  peer b then accept", "if not  peer a then accept", "then no-med  and accept", "then no-med and  accept",
	} {
		wantNoTerm(t, s)
	}
}

// Numbers one by one about each limit, and written with noughts ahead.
func TestP16_3Numbers(t *testing.T) {
	for n := range 70000 {
		s := strconv.Itoa(n)
		if n > 300 && n < 65500 && n%97 != 0 {
			continue
		}
		wantText(t, then(api.Action{Kind: api.DoPref, N: uint32(n)}), "then pref "+s)
		wantText(t, then(api.Action{Kind: api.DoMed, N: uint32(n)}), "then med "+s)
		if n <= 65535 {
			wantText(t, iff(api.Cond{Kind: api.IfLength, N: n}), "if length "+s+" then accept")
		} else {
			wantNoTerm(t, "if length "+s+" then accept")
		}
		if n >= 1 && n <= 8 {
			wantText(t, then(api.Action{Kind: api.DoPrepend, N: uint32(n)}), "then prepend "+s)
		} else {
			wantNoTerm(t, "then prepend "+s)
		}
		for _, ahead := range []string{"0", "00", "-", "+", " ", "0x"} {
			wantNoTerm(t, "then pref "+ahead+s)
			wantNoTerm(t, "then med "+ahead+s)
			wantNoTerm(t, "then prepend "+ahead+s)
			wantNoTerm(t, "if length "+ahead+s+" then accept")
		}
	}
	for n := uint64(4294967295 - 20); n < 4294967296+300; n++ {
		s := "then med " + strconv.FormatUint(n, 10)
		if n > 4294967295 {
			wantNoTerm(t, s)
			continue
		}
		wantText(t, then(api.Action{Kind: api.DoMed, N: uint32(n)}), s)
	}
}

// As many conditions and actions as there may be, and one more.
func TestP16_3HowMany(t *testing.T) {
	for _, n := range []int{1, 2, most - 1, most, most + 1, most + 2, 2 * most, 257, 1000} {
		conds, actions := repeat(api.Cond{Kind: api.IfPeer, Name: "and"}, n), repeat(del("then"), n)
		for _, x := range []api.Term{iff(conds...), then(actions...), {Conds: conds, Actions: actions}} {
			if n <= most {
				wantText(t, x, modelText(x))
			} else {
				wantNoText(t, x)
				wantNoTerm(t, modelText(x))
			}
		}
	}
	for _, s := range []string{"if ", "then ", "and ", " ", "peer a and ", "if peer a and ", "not ", "accept and ", "no-med and ", "then no-med and ", "if peer and and ", "x"} {
		wantNoTerm(t, strings.Repeat(s, 1<<15))
		wantNoTerm(t, "if "+strings.Repeat(s, 1<<15))
		wantNoTerm(t, "then "+strings.Repeat(s, 1<<15))
	}
	for _, s := range []string{"9", "0", "a", "1:", "1.", "\x00", "\xff"} {
		for _, ahead := range []string{"then pref ", "then add ", "then del ", "then next ", "then origin ", "then ", "if length ", "if peer ", "if fam "} {
			wantNoTerm(t, ahead+strings.Repeat(s, 1<<17))
			wantNoTerm(t, ahead+strings.Repeat(s, 1<<17)+" then accept")
		}
	}
}

// vocabulary has words of the language, and some that are none.
var vocabulary = []string{"if", "then", "and", "not", "prefix", "comm", "path", "peer", "origin", "length", "fam", "igp", "incomplete", "v6", "vpn4", "accept", "reject", "no-med", "pref", "med", "add", "del", "prepend", "next", "0", "1", "8", "9", "01", "65535", "65536", "4294967296", "1:2", "no-export", "10.0.0.1", "0:0:0:0:0:0:0:1", "a", "A", "", "-", "or"}

// wantAsModel holds what Term says of any text against the model.
func wantAsModel(t *testing.T, s string) bool {
	t.Helper()
	x, right := modelTerm(s)
	if right {
		wantTerm(t, s, x)
	} else {
		wantNoTerm(t, s)
	}
	return right
}

// All texts of up to six words of a few.
func TestP16_3AllShort(t *testing.T) {
	few := []string{"if", "then", "and", "not", "peer", "accept", "del", ""}
	right := 0
	var all func(s string, left int)
	all = func(s string, left int) {
		if wantAsModel(t, s) {
			right++
		}
		for _, word := range few {
			if left > 0 {
				all(s+" "+word, left-1)
			}
		}
	}
	for _, word := range few {
		all(word, 5)
	}
	if right < 30 {
		t.Errorf("%d of the texts are terms", right)
	}
}

// near has the texts that come of one by one change: a byte, or a word, left out, put in, doubled, changed.
func near(s string) []string {
	var l []string
	for i := range len(s) {
		l = append(l, s[:i]+s[i+1:], s[:i]+s[i:i+1]+s[i:], s[:i])
		for _, c := range " 019azAZ-:.\x00\xff\n" {
			l = append(l, s[:i]+string(c)+s[i:], s[:i]+string(c)+s[i+1:], s+string(c))
		}
	}
	words := strings.Split(s, " ")
	for i := range words {
		l = append(l, strings.Join(slices.Delete(slices.Clone(words), i, i+1), " "))
		for k := range i {
			other := slices.Clone(words)
			other[i], other[k] = other[k], other[i]
			l = append(l, strings.Join(other, " "))
		}
		for _, word := range vocabulary {
			other := slices.Clone(words)
			other[i] = word
			l = append(l, strings.Join(other, " "), strings.Join(slices.Insert(slices.Clone(words), i, word), " "))
		}
	}
	return l
}

// Whatever stands next to a text is a term's just if the model says so, and comes back then.
func TestP16_5Near(t *testing.T) {
	right := 0
	for _, s := range []string{
		"then reject", "then no-med and accept", "if peer and then accept", "if not length 65535 and origin egp then prepend 8 and reject", "if prefix a and comm b and path c then del d",
		"if fam vpn4 and not fam v6 then pref 4294967295 and med 10", "then add 65535:65280 and add no-export-subconfed", "then next 10.0.0.1 and next 1:20:a:0:0:0:0:ffff and origin incomplete",
	} {
		if !wantAsModel(t, s) {
			t.Errorf("%q is no term's for the model", s)
		}
		for _, n := range near(s) {
			if wantAsModel(t, n) {
				right++
			}
		}
	}
	if right < 1000 {
		t.Errorf("%d of the texts are terms", right)
	}
}

// Words one behind the other, that make a term rather often.
func TestP16_5RandomWords(t *testing.T) {
	r := rand.New(rand.NewSource(21))
	pieces := []string{"peer a", "not peer and", "length 7", "fam l4", "origin igp", "then", "and", "if", "accept", "no-med", "med 7", "del and", "prepend 3", "origin"}
	right := 0
	for range 200000 {
		words := []string{[]string{"then", "if", "if"}[r.Intn(3)]}
		for range 1 + r.Intn(6) {
			if r.Intn(4) == 0 {
				words = append(words, vocabulary[r.Intn(len(vocabulary))])
			} else {
				words = append(words, pieces[r.Intn(len(pieces))])
			}
		}
		if wantAsModel(t, strings.Join(words, " ")) {
			right++
		}
	}
	if right < 1000 {
		t.Errorf("%d of the texts are terms", right)
	}
}

// Each condition and each action, alone and among others, comes back from its text.
func TestP16_5Back(t *testing.T) {
	conds, actions := condsOf(), actionsOf()
	for _, c := range conds {
		wantText(t, iff(c), modelText(iff(c)))
	}
	for _, a := range actions {
		wantText(t, then(a), modelText(then(a)))
	}
	r := rand.New(rand.NewSource(22))
	rest := goOn()
	for range 20000 {
		x := randomTerm(r, conds, rest)
		wantText(t, x, modelText(x))
	}
}
