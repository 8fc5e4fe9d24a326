package conf_test

import (
	"slices"
	"strconv"
	"strings"
	"testing"

	"herald/api"
	"herald/conf"
)

func TestP18_2Examples(t *testing.T) {
	const c = smallText
	peer := strings.Replace(peerText, "\n", "", 1)
	wantRead(t, c, small())
	wantFault(t, "", api.ErrLine, 0)
	wantFault(t, "as 65000\n", api.ErrLine, 1)
	wantFault(t, "as 0\nid 10.0.0.1\naddr 10.0.0.1\nlabels 16 100\n", api.ErrConf, 0)
	with := small()
	with.Peers = []api.Peer{outer(2)}
	with.Peers[0].Name = "a"
	wantRead(t, c+peer+"\n", with)
	wantFault(t, c+strings.Replace(peer, "hold 90", "hold 2", 1)+"\n", api.ErrConf, 4)
	wantFault(t, c+strings.Replace(peer, "hold 90", "hold 02", 1)+"\n", api.ErrLine, 4)
	wantFault(t, c+peer+" in x\n", api.ErrConf, 4)
	wantFault(t, c+strings.TrimSuffix(peer, " v4")+"\n", api.ErrConf, 4)
	wantFault(t, c+peer, api.ErrLine, 4)
	wantFault(t, c+"vrf v 1\nimport v 65000:1\nimport w 65000:2\n", api.ErrLine, 6)
	wantFault(t, c+"import v 65000:1\n", api.ErrLine, 4)
	wantFault(t, c+"confed 1\n", api.ErrLine, 4)
	wantFault(t, "as 1\nid 10.0.0.1\naddr 10.0.0.1\nlabels 15 100\n", api.ErrConf, 3)
	wantFault(t, "as 1\nid 10.0.0.1\naddr 10.0.0.1\nlabels 16 15\n", api.ErrConf, 3)
	p := api.Peer{AS: 65000}
	if conf.Internal(small(), p) != api.FromInternal {
		t.Error("a peer of the own AS")
	}
	p.Client = true
	if conf.Internal(small(), p) != api.FromClient {
		t.Error("a client")
	}
	if conf.Internal(small(), outer(2)) != api.FromExternal {
		t.Error("another one")
	}
	wantRead(t, fullText, full())
}

// lineTest has texts of one line that stands in place of one of full; the line is right in form, or is not.
type lineTest struct {
	was          string
	right, wrong []string
}

// Lines that are right in form, though what they tell may be wrong, and lines that are not.
var lineTests = []lineTest{
	{"as 65000", []string{"as 0", "as 1", "as 4294967295"}, []string{"as", "as ", "as 1 ", " as 1", "as  1", "as 01", "as 00", "as -1", "as +1", "as 4294967296", "as 18446744073709551616", "as 1 2", "as a", "as 0x1", "as 1.0", "as 1_0", "as 1\t", "as\t1", "As 1", "AS 1", "as1", "", " ", "asn 1", "a 1", "as \x00", "as 99999999999999999999999999999999999999"}},
	{"id 10.0.0.1", []string{"id 0.0.0.0", "id 0.0.0.1", "id 255.255.255.255", "id 10.0.0.2"}, []string{"id", "id ", "id 1", "id 10.0.0", "id 10.0.0.1.1", "id 10.0.0.256", "id 010.0.0.1", "id 10.0.0.1 ", "id  10.0.0.1", "id 10.0.0.1/32", "id 1:2:3:4:5:6:7:8", "id 0:0:0:0:0:0:0:0", "id ::1", "id v4 10.0.0.1", "id 10.0.0.1 1", "Id 10.0.0.1", "id 10.0.0.-1", "id a"}},
	{"addr 10.0.0.1", []string{"addr 0.0.0.0", "addr 255.255.255.255"}, []string{"addr", "addr ", "addr 1", "addr 10.0.0", "addr 10.0.0.256", "addr 10.0.0.01", "addr 10.0.0.1 ", "addr  10.0.0.1", "addr 1:2:3:4:5:6:7:8", "addr 0:0:0:0:0:0:0:0", "addr 10.0.0.1 10.0.0.2", "addr 10.0.0.1/32"}},
	{"confed 100", []string{"confed 1", "confed 4294967295"}, []string{"confed", "confed ", "confed 0", "confed 00", "confed 01", "confed -1", "confed 4294967296", "confed 4294967297", "confed 1 2", "confed a", "confed  1", "confed 1 "}},
	{"member 65000", []string{"member 0", "member 1", "member 65002", "member 4294967295"}, []string{"member", "member ", "member 00", "member 01", "member 4294967296", "member 1 2", "member  1", "member 1 ", "member a", "members 1"}},
	{"cluster 7", []string{"cluster 1", "cluster 4294967295"}, []string{"cluster", "cluster ", "cluster 0", "cluster 00", "cluster 01", "cluster 4294967296", "cluster 1 2", "cluster 10.0.0.1", "cluster  1", "cluster 1 "}},
	{"labels 16 1048575", []string{"labels 0 0", "labels 16 16", "labels 4294967295 4294967295", "labels 15 1048576", "labels 100 16"}, []string{"labels", "labels ", "labels 16", "labels 16 ", "labels 16  100", "labels  16 100", "labels 16 100 ", "labels 016 100", "labels 16 0100", "labels 4294967296 1", "labels 1 4294967296", "labels 1 2 3", "labels 16-100", "labels a 1", "labels 1 a", "label 16 100"}},
	{"vrf w 18446744073709551615", []string{"vrf w 0", "vrf w 1", "vrf w 3", "vrf w 4294967296", "vrf W 3", "vrf 1 3", "vrf - 3", "vrf vrf 3", "vrf w\t 3", "vrf \x00 3", "vrf \xff 3", "vrf a234567890123456 3", "vrf a2345678901234567 3"}, []string{"vrf", "vrf ", "vrf w", "vrf w ", "vrf  3", "vrf w  3", "vrf w 3 ", "vrf w 03", "vrf w 18446744073709551616", "vrf w 184467440737095516150", "vrf w a", "vrf w -1", "vrf w 1 2", "vrf w 1:2", "vrf 3"}},
	{"import v 65000:1", []string{"import v 0:0", "import v 0:1", "import v 65535:4294967295", "import v 1:2", "import v 65535:0", "import v 0:4294967295"}, []string{"import", "import ", "import v", "import v ", "import v 1", "import v 1:", "import v :1", "import v :", "import v 1:2:3", "import v 65536:1", "import v 1:4294967296", "import v 01:1", "import v 1:01", "import v 1:2 ", "import v  1:2", "import  v 1:2", "import  1:2", "import v 1:2 3", "import v -1:2", "import v 1:-2", "import w 1:2", "import x 1:2", "import V 1:2", "import vv 1:2", "import v a", "import v no-export", "import v 1.2", "import 1:2", "import v 1: 2", "import v 844424930131969", "import v 2:65000:1"}},
	{"export v 65000:2", []string{"export v 0:0", "export v 65535:4294967295", "export v 65000:1"}, []string{"export", "export ", "export v", "export v ", "export v 1", "export v 65536:1", "export v 1:4294967296", "export v 01:1", "export v 1:01", "export v 1:2 ", "export w 1:2", "export x 1:2", "export V 1:2", "export v 1:2:3", "export 1:2"}},
	{"static - v4 10.0.0.0/8 10.0.0.9", []string{"static v v4 10.0.0.0/8 10.0.0.9", "static w v4 10.0.0.0/8 10.0.0.9", "static - v6 0:0:0:0:0:0:0:0/0 1:2:3:4:5:6:7:8", "static - v4 10.0.0.0/8 1:2:3:4:5:6:7:8", "static - l4 10.0.0.0/8 10.0.0.9", "static - vpn4 7 10.0.0.0/8 10.0.0.9", "static - vpn6 0 0:0:0:0:0:0:0:0/0 10.0.0.9", "static y v4 10.0.0.0/8 10.0.0.9", "static V v4 10.0.0.0/8 10.0.0.9", "static -- v4 10.0.0.0/8 10.0.0.9", "static v4 v4 10.0.0.0/8 10.0.0.9", "static \x00 v4 10.0.0.0/8 10.0.0.9", "static -v v4 10.0.0.0/8 10.0.0.9", "static - v4 0.0.0.0/0 0.0.0.0"}, []string{"static", "static ", "static -", "static - ", "static v4 10.0.0.0/8 10.0.0.9", "static  v4 10.0.0.0/8 10.0.0.9", "static - v4 10.0.0.0/8", "static - v4 10.0.0.0/8 ", "static - v4 10.0.0.0/8  10.0.0.9", "static -  v4 10.0.0.0/8 10.0.0.9", "static - v4  10.0.0.0/8 10.0.0.9", "static - v4 10.0.0.0/8 10.0.0.9 ", "static - v4 10.0.0.0/8 10.0.0.9 1", "static - v4 10.0.0.1/8 10.0.0.9", "static - v4 10.0.0.0/33 10.0.0.9", "static - v4 10.0.0.0/08 10.0.0.9", "static - v4 7 10.0.0.0/8 10.0.0.9", "static - v5 10.0.0.0/8 10.0.0.9", "static - 10.0.0.0/8 10.0.0.9", "static - v4 10.0.0.0 10.0.0.9", "static - v4 10.0.0.0/8 10.0.0", "static - v4 10.0.0.0/8 010.0.0.9", "static - vpn4 10.0.0.0/8 10.0.0.9", "static - vpn4 7 10.0.0.0/8", "static - vpn4 07 10.0.0.0/8 10.0.0.9", "static - v6 10.0.0.0/8 10.0.0.9", "static - v4 10.0.0.0/8 v4 10.0.0.9"}},
	{"set d path", []string{"set d prefix", "set d comm", "set D path", "set path path", "set a path", "set - path", "set \x00 path"}, []string{"set", "set ", "set d", "set d ", "set  path", "set d  path", "set d path ", "set d Path", "set d paths", "set d pat", "set d 3", "set d set", "set d accept", "set d path path", "set path"}},
	{"item a v4 10.0.0.0/8 8 24", []string{"item a v4 10.0.0.0/8 0 0", "item a v4 10.0.0.0/8 255 255", "item a v4 10.0.0.0/8 24 8", "item a l4 0.0.0.0/0 0 32", "item a vpn4 0 10.0.0.0/8 8 9", "item a vpn6 18446744073709551615 0:0:0:0:0:0:0:0/0 0 128", "item a v6 1:0:0:0:0:0:0:0/16 16 128", "item a v4 10.0.0.0/8 7 8", "item a v4 10.0.0.0/8 8 33"}, []string{"item", "item ", "item a", "item a ", "item a v4", "item a v4 10.0.0.0/8", "item a v4 10.0.0.0/8 8", "item a v4 10.0.0.0/8 8 ", "item a v4 10.0.0.0/8 8 24 ", "item a v4 10.0.0.0/8 8  24", "item a v4 10.0.0.0/8  8 24", "item a  v4 10.0.0.0/8 8 24", "item  a v4 10.0.0.0/8 8 24", "item a v4 10.0.0.0/8 256 256", "item a v4 10.0.0.0/8 256 9", "item a v4 10.0.0.0/8 8 256", "item a v4 10.0.0.0/8 264 9", "item a v4 10.0.0.0/8 08 24", "item a v4 10.0.0.0/8 8 024", "item a v4 10.0.0.0/8 -1 24", "item a v4 10.0.0.0/8 8 24 25", "item b v4 10.0.0.0/8 8 24", "item A v4 10.0.0.0/8 8 24", "item aa v4 10.0.0.0/8 8 24", "item v4 10.0.0.0/8 8 24", "item a v4 10.0.0.1/8 8 24", "item a vpn4 18446744073709551616 10.0.0.0/8 8 9", "item a vpn4 10.0.0.0/8 8 9", "item a 10.0.0.0/8 8 24", "item a 1:2", "item a no-export", "item a 1 . *", "item a -", "item a *", "item a accept"}},
	{"item b 65000:7", []string{"item b 0:1", "item b 65535:65280", "item b no-advertise", "item b no-export-subconfed", "item b no-export", "item b 0:0", "item b 65535:65284"}, []string{"item b", "item b ", "item b 1", "item b 1:", "item b :1", "item b 65536:0", "item b 0:65536", "item b 65535:65281", "item b 65535:65282", "item b 65535:65283", "item b 01:1", "item b 1:01", "item b 1:2 ", "item b  1:2", "item b 1:2 1:3", "item b No-export", "item b export", "item a 1:2", "item c 1:2", "item b v4 10.0.0.0/8 8 24", "item b *", "item b 1 . *", "item b -"}},
	{"item c 1 . *", []string{"item c 1", "item c .", "item c *", "item c -", "item c 4294967295", "item c * * *", "item c . . 1", "item c 1" + strings.Repeat(" 1", 63)}, []string{"item c", "item c ", "item c 0", "item c 01", "item c 4294967296", "item c 1  2", "item c 1 ", "item c  1", "item c - 1", "item c 1 -", "item c - -", "item c 1 2 a", "item c **", "item c 1.", "item c <1>", "item c 1:2", "item c no-export", "item c v4 10.0.0.0/8 8 24", "item b 1", "item d 1", "item c 1" + strings.Repeat(" 1", 64)}},
	{"policy q reject", []string{"policy q accept", "policy Q reject", "policy accept reject", "policy p reject", "policy r accept", "policy \x00 accept"}, []string{"policy", "policy ", "policy q", "policy q ", "policy  reject", "policy q  reject", "policy q reject ", "policy q Reject", "policy q rejected", "policy q accept reject", "policy q true", "policy q 1", "policy reject", "policy q drop"}},
	{"term p then next 2001:0:0:0:0:0:0:9", []string{"term p then accept", "term p then reject", "term p if peer nobody then no-med", "term p if comm x then accept", "term p if prefix b then accept", "term p then del c", "term p then prepend 8" + strings.Repeat(" and prepend 8", 63)}, []string{"term", "term ", "term p", "term p ", "term p then", "term p then ", "term p  then accept", "term  p then accept", "term p then accept ", "term p then  accept", "term p accept", "term p if then accept", "term p then accept and med 1", "term p then prepend 9", "term p then prepend 0", "term p if prefix A then accept", "term p if length 65536 then accept", "term p if not then accept", "term q then accept", "term r then accept", "term P then accept", "term pp then accept", "term then accept", "term p if peer a", "term p then pref 01", "term p then next v4", "term p then prepend 8" + strings.Repeat(" and prepend 8", 64)}},
}

// wantLine puts a line in place of one of a text, and looks for whether it is right in form.
func wantLine(t *testing.T, text, was, line string, right bool) {
	t.Helper()
	l := strings.SplitAfter(text, "\n")
	at := slices.Index(l, was+"\n")
	if at < 0 {
		t.Errorf("%q is no line", was)
		return
	}
	l[at] = line + "\n"
	s := strings.Join(l, "")
	_, f := modelParse(s)
	if is := f.Code == api.OK || f.Code == api.ErrConf; is != right || !right && f != (api.Fault{Code: api.ErrLine, At: at}) {
		t.Errorf("the model says %+v of %q", f, line)
	}
	wantTextAsModel(t, s)
	// Without what stands behind it, and without its line feed.
	wantTextAsModel(t, strings.Join(l[:at+1], ""))
	wantFault(t, strings.TrimSuffix(strings.Join(l[:at+1], ""), "\n"), api.ErrLine, at)
	if !right {
		wantFault(t, s[:len(s)-1], api.ErrLine, at)
		wantFault(t, s+"\n", api.ErrLine, at)
	}
}

func TestP18_2Lines(t *testing.T) {
	for _, x := range lineTests {
		for _, line := range append(x.right, x.was) {
			wantLine(t, fullText, x.was, line, true)
		}
		for _, line := range x.wrong {
			wantLine(t, fullText, x.was, line, false)
		}
	}
}

// peerWith is a peer's line with a piece of it changed.
func peerWith(old, new string) string {
	line := "peer p2 addr 10.0.0.2 as 65001 hold 90 retry 30 mrai 0 send 1 most 0 time 0 fams v4"
	if !strings.Contains(line, old) {
		panic(old)
	}
	return strings.Replace(line, old, new, 1)
}

func TestP18_2PeerLines(t *testing.T) {
	was := peerWith("", "")
	right := []string{
		peerWith("p2", "x"), peerWith("p2", "peer"), peerWith("p2", "addr"), peerWith("p2", "P"), peerWith("p2", "-"), peerWith("p2", "\x00"), peerWith("p2", "b"), peerWith("p2", strings.Repeat("a", 300)),
		peerWith("10.0.0.2", "1:2:3:4:5:6:7:8"), peerWith("10.0.0.2", "10.0.0.4"), peerWith("10.0.0.2", "0.0.0.0"),
		peerWith("addr 10.0.0.2", "range v4 10.0.0.0/8"), peerWith("addr 10.0.0.2", "range v6 0:0:0:0:0:0:0:0/0"), peerWith("addr 10.0.0.2", "range l4 10.0.0.0/8"), peerWith("addr 10.0.0.2", "range vpn4 7 10.0.0.0/8"), peerWith("addr 10.0.0.2", "range vpn6 0 0:0:0:0:0:0:0:0/0"),
		peerWith("v4", "v4 v6"), peerWith("v4", "v6 v4"), peerWith("v4", "v4 v4"), peerWith("v4", "vpn6 vpn4 l4 v6 v4 v4 v6 l4 vpn4 vpn6"), peerWith(" v4", ""), peerWith("v4", strings.Repeat("v4 ", 99)+"v4"),
	}
	wrong := []string{
		"peer", "peer ", "peer p2", "peer p2 ", peerWith("p2 ", ""), peerWith("p2", ""), peerWith("p2", "p2 "), peerWith("p2", " p2"), peerWith("p2", "p2 p3"),
		peerWith("addr ", ""), peerWith("addr ", "Addr "), peerWith("addr ", "host "), peerWith("addr 10.0.0.2 ", ""), peerWith("10.0.0.2", "10.0.0"), peerWith("10.0.0.2", "10.0.0.256"), peerWith("10.0.0.2", "010.0.0.2"), peerWith("10.0.0.2", "10.0.0.2/32"), peerWith("10.0.0.2", ""), peerWith("10.0.0.2", "10.0.0.2 "), peerWith("10.0.0.2", "::1"), peerWith("10.0.0.2", "v4 10.0.0.2"), peerWith("10.0.0.2", "10.0.0.2 10.0.0.3"), peerWith("10.0.0.2", "range v4 10.0.0.0/8"), peerWith("10.0.0.2", "10.0.0.2 range v4 10.0.0.0/8"),
		peerWith("addr 10.0.0.2", "range"), peerWith("addr 10.0.0.2", "range "), peerWith("addr 10.0.0.2", "range v4"), peerWith("addr 10.0.0.2", "range 10.0.0.0/8"), peerWith("addr 10.0.0.2", "range v4 10.0.0.1/8"), peerWith("addr 10.0.0.2", "range v4 10.0.0.0/33"), peerWith("addr 10.0.0.2", "range v4 7 10.0.0.0/8"), peerWith("addr 10.0.0.2", "range vpn4 10.0.0.0/8"), peerWith("addr 10.0.0.2", "range v4  10.0.0.0/8"), peerWith("addr 10.0.0.2", "range v4 10.0.0.0/8 addr 10.0.0.2"), peerWith("addr 10.0.0.2", "range v4 10.0.0.0/8 v6 0:0:0:0:0:0:0:0/0"), peerWith("addr 10.0.0.2", "range l6 10.0.0.0/8"),
		peerWith("fams", "fam"), peerWith("fams", ""), peerWith(" fams v4", ""), peerWith("fams v4", "v4"), peerWith("v4", ""), peerWith("v4", "V4"), peerWith("v4", "v5"), peerWith("v4", "1"), peerWith("v4", "v4 "), peerWith("v4", " v4"), peerWith("v4", "v4  v6"), peerWith("v4", "v4 all"), peerWith("v4", "v4,v6"), peerWith("v4", "v4 -"), peerWith("fams v4", "fams v4 fams v6"), peerWith("fams v4", "fams "), peerWith("fams v4", "fams v4 vpn"),
		" " + was, was + "\r", was + "\t", was + "\x00", was + " x", was + " ",
	}
	for _, w := range []string{"as", "hold", "retry", "mrai", "send", "most", "time"} {
		i := strings.Index(was, " "+w+" ") + 1
		end := i + strings.IndexByte(was[i+len(w)+1:], ' ') + len(w) + 1
		old, n := was[i:end], was[i+len(w)+1:end]
		for _, x := range []string{"0", "1", "65536", "4294967295"} {
			right = append(right, strings.Replace(was, old, w+" "+x, 1))
		}
		for _, x := range []string{"", " ", " 1", "1 ", "01", "00", "-1", "+1", "4294967296", "18446744073709551617", "a", "1 1", "0x1", w, "1.5", strings.ToUpper(w) + " 1"} {
			wrong = append(wrong, strings.Replace(was, old, w+" "+x, 1))
		}
		for _, x := range []string{w, strings.ToUpper(w) + " " + n, n, w + n, w + "s " + n, old + " " + old, "x " + old, "time " + n + " " + w} {
			wrong = append(wrong, strings.Replace(was, old, x, 1))
		}
		wrong = append(wrong, strings.Replace(was, old+" ", "", 1))
	}
	// Each two words changed about.
	words := strings.Split(was, " ")
	for i := range words {
		for k := range i {
			other := slices.Clone(words)
			other[i], other[k] = other[k], other[i]
			wantTextAsModel(t, strings.Replace(fullText, was, strings.Join(other, " "), 1))
		}
	}
	for _, line := range right {
		wantLine(t, fullText, was, line, true)
	}
	for _, line := range wrong {
		wantLine(t, fullText, was, line, false)
	}
}

// The words behind the families: in their order alone, each once; and of each two among others what the model says.
func TestP18_2PeerWords(t *testing.T) {
	was := peerWith("", "")
	words := []string{"passive", "client", "confed", "take", "gr", "selfnext", "in p", "out q", "vrf w"}
	for i, a := range words {
		wantLine(t, fullText, was, was+" "+a, true)
		for k, b := range words {
			for m, c := range words {
				wantLine(t, fullText, was, was+" "+a+" "+b+" "+c, i < k && k < m)
			}
		}
	}
	for _, line := range []string{" in passive", " out in", " vrf vrf", " in in", " in out", " in out out in vrf out", " in x", " out X", " vrf -", " v6 v6 l4", " passive in v6", " in \x00"} {
		wantLine(t, fullText, was, was+line, true)
	}
	for _, line := range []string{" in", " out", " vrf", " in ", " in  p", " in p ", " in p in q", " out q in p", " vrf w in p", " in in in", " passive v6", " in p v6", " x", " Passive", " passive passive", " selfnext gr", " in p passive", " passive ", "  passive", " passive  client", " in p q"} {
		wantLine(t, fullText, was, was+line, false)
	}
	whole := was + " v6 passive client confed take gr selfnext in p out q vrf w"
	wantLine(t, fullText, was, whole, true)
	for _, w := range append(words, "", "v6", "in", "-") {
		wantLine(t, fullText, was, whole+" "+w, false)
	}
	right := 0
	words = append(words, "v6", "in", "out", "vrf", "in in", "out in", "vrf out", "in vrf", "Passive", "x", "")
	for _, a := range words {
		for _, b := range words {
			for _, c := range words {
				s := smallText + strings.TrimSuffix(peerText, "\n") + " " + a + " " + b + " " + c + "\n"
				if _, f := modelParse(s); f.Code != api.ErrLine {
					right++
				}
				wantTextAsModel(t, s)
			}
		}
	}
	if right < 300 {
		t.Errorf("%d of the lines are right", right)
	}
}

// kinds has a line of each kind, in the order in which they stand; of the names that are asked for each is there.
var kinds = []string{"as 65000\n", "id 10.0.0.1\n", "addr 10.0.0.1\n", "confed 7\n", "member 9\n", "cluster 8\n", "labels 16 100\n", "vrf v 1\n", "import v 1:1\n", "export v 1:1\n", peerText, "static - v4 10.0.0.0/8 10.0.0.9\n", "set a comm\n", "item a 1:1\n", "policy p accept\n", "term p then accept\n"}

// Each choice of the sixteen kinds, in their order.
func TestP18_2Choices(t *testing.T) {
	right := 0
	for bits := range 1 << len(kinds) {
		s := ""
		for i, line := range kinds {
			if bits>>i&1 > 0 {
				s += line
			}
		}
		if wantTextAsModel(t, s) {
			right++
		}
	}
	// Four lines stand always, a member just with a confederation; targets, items, terms behind what they are of.
	if right != 3*2*5*2*2*3*3 {
		t.Errorf("%d of the choices are texts", right)
	}
}

// Each line put at each place, left out, changed about with another one, doubled: of the whole, and of a beginning.
func TestP18_2Places(t *testing.T) {
	for _, text := range []string{strings.Join(kinds, ""), fullText} {
		l := strings.SplitAfter(strings.TrimSuffix(text, "\n"), "\n")
		l[len(l)-1] += "\n"
		for i := range l {
			wantTextAsModel(t, strings.Join(l[:i], ""))
			wantTextAsModel(t, strings.Join(slices.Delete(slices.Clone(l), i, i+1), ""))
			for k := range l {
				wantTextAsModel(t, strings.Join(slices.Insert(slices.Clone(l), k, l[i]), ""))
				moved := slices.Insert(slices.Delete(slices.Clone(l), i, i+1), min(k, len(l)-1), l[i])
				wantTextAsModel(t, strings.Join(moved, ""))
				other := slices.Clone(l)
				other[i], other[k] = other[k], other[i]
				wantTextAsModel(t, strings.Join(other, ""))
			}
			for _, line := range kinds {
				wantTextAsModel(t, strings.Join(slices.Insert(slices.Clone(l), i, line), ""))
			}
		}
	}
}

// Texts that end ahead of the line labels, with how many lines there are; and without the last line feed.
func TestP18_2Ends(t *testing.T) {
	head := []string{"as 65000\n", "id 10.0.0.1\n", "addr 10.0.0.1\n", "confed 7\n", "member 9\n", "member 10\n", "member 11\n", "cluster 8\n"}
	for n := range len(head) + 1 {
		s := strings.Join(head[:n], "")
		wantFault(t, s, api.ErrLine, n)
		wantFault(t, s+"vrf v 1\n", api.ErrLine, n)
		wantFault(t, s+"\n", api.ErrLine, n)
		wantFault(t, s+"x", api.ErrLine, n)
		if n > 0 {
			wantFault(t, s[:len(s)-1], api.ErrLine, n-1)
		}
	}
	for _, s := range []string{"\n", "\n\n", "as 65000", "as 65000\n\n", "\x00", "\nas 65000\n", "as 65000\r\n", "\xef\xbb\xbfas 65000\n"} {
		wantTextAsModel(t, s)
	}
	for _, s := range []string{"\n", "\n\n", " \n", "x\n", "# none\n", "\x00\n", "x", " ", "\r\n", "end\n"} {
		wantFault(t, smallText+s, api.ErrLine, 4)
		wantFault(t, s+smallText, api.ErrLine, 0)
	}
	// Line feeds alone end lines.
	for _, s := range []string{"\r\n", "\r", "\x0b\n", "\u2028", "\x00\n", " \n"} {
		wantTextAsModel(t, strings.ReplaceAll(smallText, "\n", s))
	}
}

// Of several lines that are not right in form the first one is told, and ahead of all things that are wrong; of things the first one, by its first line.
func TestP18_2Which(t *testing.T) {
	l := strings.SplitAfter(strings.TrimSuffix(fullText, "\n"), "\n")
	l[len(l)-1] += "\n"
	wrongThing := strings.Replace(fullText, "as 65000", "as 0", 1)
	wantFault(t, wrongThing, api.ErrConf, 0)
	for i := range l {
		for k := range i {
			other := slices.Clone(l)
			other[i], other[k] = "x\n", "y\n"
			wantFault(t, strings.Join(other, ""), api.ErrLine, k)
		}
		if i > 0 {
			other := strings.SplitAfter(wrongThing, "\n")
			other[i] = "x\n"
			wantFault(t, strings.Join(other, ""), api.ErrLine, i)
		}
	}
	// What is wrong stands in the last line of a thing, or in several of them.
	for _, x := range []struct {
		old, new string
		at       int
	}{
		{"export v 65000:2", "export v 65000:1", 8}, {"export v 65000:2", "export v 0:0", 8}, {"import v 65535:4294967295", "import v 65000:1", 8}, {"vrf x 2", "vrf x 1", 15}, {"vrf w 1844", "vrf W 1844", 14},
		{"fams v6 confed", "fams v6 client confed", 19}, {"static v v6", "static z v6", 24}, {"item a v6 2001:0:0:0:0:0:0:0/16 128 128", "item a v6 2001:0:0:0:0:0:0:0/16 15 128", 25}, {"item b no-export", "item b 65000:7", 29}, {"item b 65000:7", "item b 0:0", 29},
		{"set d path", "set c path", 37}, {"del b", "del c", 38}, {"if comm b then add", "if comm c then add", 42}, {"policy r", "policy q", -1}, {"member 65002", "member 65000", 5}, {"labels 16 1048575", "labels 16 1048576", 7}, {"confed 100\n", "", 3},
	} {
		s := strings.Replace(fullText, x.old, x.new, 1)
		if x.at < 0 {
			s, x.at = strings.Replace(s, "term r", "term q", 1), 42
		}
		wantFault(t, s, api.ErrConf, x.at)
		// One more behind it that is wrong changes nothing.
		wantFault(t, s+"policy Z accept\n", api.ErrConf, x.at)
		wantFault(t, s+"policy Z accept\nx", api.ErrLine, strings.Count(s, "\n")+1)
	}
}

// Where there are too many of a list, the row holds of none of them: the first one is told.
func TestP18_2TooMany(t *testing.T) {
	for _, x := range []struct {
		most, ahead int
		head, line  string
	}{
		{64, 4, "as 65000\nid 10.0.0.1\naddr 10.0.0.1\nconfed 9\n", "member 1#\n"}, {8, 4, smallText, "vrf v# 1#\n"}, {16, 4, smallText, "peer p# addr 10.0.1.# as 1 hold 0 retry 1 mrai 0 send 1 most 0 time 0 fams v4\n"},
		{64, 4, smallText, "static - v4 10.0.#.0/24 10.0.0.1\n"}, {32, 4, smallText, "set s# comm\n"}, {32, 4, smallText, "policy p# reject\n"},
	} {
		tail := ""
		if x.most == 64 && strings.HasPrefix(x.line, "member") {
			tail = "labels 16 100\n"
		}
		for n := 1; n < x.most+70; n++ {
			s := x.head
			for i := range n {
				s += strings.ReplaceAll(x.line, "#", strconv.Itoa(100+i))
			}
			if n <= x.most {
				if !wantTextAsModel(t, s+tail) {
					t.Errorf("%d are too many of %q", n, x.line)
				}
			} else {
				wantFault(t, s+tail, api.ErrConf, x.ahead)
			}
		}
	}
	// Too many of a thing's own list are told of the thing.
	for _, x := range []struct{ head, line string }{{"vrf v 1\n", "import v 1:#\n"}, {"vrf v 1\n", "export v 1:#\n"}, {"set a comm\n", "item a 1:#\n"}, {"set a path\n", "item a #\n"}, {"set a prefix\n", "item a v4 10.0.#.0/24 24 24\n"}, {"policy p accept\n", "term p then med #\n"}} {
		for _, n := range []int{0, 1, 63, 64, 65, 66, 150} {
			s := smallText + "vrf a 7\n" + x.head
			if x.head != "vrf v 1\n" {
				s = smallText + "set z comm\n" + x.head
			}
			for i := range n {
				s += strings.ReplaceAll(x.line, "#", strconv.Itoa(100+i))
			}
			if n <= 64 {
				if !wantTextAsModel(t, s) {
					t.Errorf("%d are too many of %q", n, x.line)
				}
			} else {
				wantFault(t, s, api.ErrConf, 5)
			}
		}
	}
}
