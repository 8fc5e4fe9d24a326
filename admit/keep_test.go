package admit_test

import (
	"strings"
	"testing"

	"herald/admit"
	"herald/api"
)

func wantWins(t *testing.T, local, remote uint32, want bool) {
	t.Helper()
	if got := admit.Wins(local, remote); got != want {
		t.Errorf("Wins(%d, %d) = %t", local, remote, got)
	}
}

// Of numbers that rise each one is greater than those ahead, and than no other one.
func TestP21_3Wins(t *testing.T) {
	l := []uint32{0, 1, 2, 255, 256, 1<<16 - 1, 1 << 16, 1<<31 - 1, 1 << 31, 1<<31 + 1, 1<<32 - 2, 1<<32 - 1}
	for i, a := range l {
		for j, b := range l {
			wantWins(t, a, b, i > j)
		}
	}
}

func wantAbove(t *testing.T, mine, theirs string, want bool) {
	t.Helper()
	if got := admit.Above(mine, theirs); got != want {
		t.Errorf("Above(%q, %q) = %t", mine, theirs, got)
	}
}

// Of addresses that rise each one is above those ahead, and above no other one.
func TestP21_3Above(t *testing.T) {
	l := []string{
		"0.0.0.0", "0.0.0.1", "0.0.0.127", "0.0.0.128", "0.0.0.255", "0.0.1.0", "0.1.0.0", "1.0.0.0", "10.0.0.1", "10.0.0.2", "10.0.1.0",
		"127.255.255.255", "128.0.0.0", "128.0.0.1", "255.0.0.0", "255.255.255.254", "255.255.255.255",
		"0:0:0:0:0:0:0:0", "0:0:0:0:0:0:0:1", "0:0:0:0:0:0:0:7f", "0:0:0:0:0:0:0:80", "0:0:0:0:0:0:0:100", "0:0:0:1:0:0:0:0",
		"1:0:0:0:0:0:0:0", "7fff:0:0:0:0:0:0:1", "8000:0:0:0:0:0:0:0", "ff00:0:0:0:0:0:0:0", farOff,
	}
	for i, a := range l {
		for j, b := range l {
			wantAbove(t, addr(a), addr(b), i > j)
		}
	}
}

// Byte by byte: the first byte that parts them counts, whatever stands behind it.
func TestP21_3AboveBytes(t *testing.T) {
	for _, size := range []int{4, 16} {
		for i := range size {
			for _, c := range [][2]byte{{0, 1}, {0, 255}, {126, 127}, {127, 128}, {128, 129}, {1, 200}, {254, 255}} {
				ahead := strings.Repeat("\x80", i)
				low := ahead + string([]byte{c[0]}) + strings.Repeat("\xff", size-i-1)
				high := ahead + string([]byte{c[1]}) + strings.Repeat("\x00", size-i-1)
				wantAbove(t, high, low, true)
				wantAbove(t, low, high, false)
				wantAbove(t, high, high, false)
			}
		}
	}
}

func TestP21_3AboveNoAddress(t *testing.T) {
	may := []string{addr("0.0.0.0"), addr("255.255.255.255"), addr("0:0:0:0:0:0:0:0"), addr(farOff)}
	for n := range 40 {
		if n == 4 || n == 16 {
			continue
		}
		for _, b := range []string{"\x00", "\x7f", "\xff"} {
			odd := strings.Repeat(b, n)
			for _, a := range may {
				wantAbove(t, a, odd, false)
				wantAbove(t, odd, a, false)
			}
			wantAbove(t, odd, "", false)
			wantAbove(t, "", odd, false)
			wantAbove(t, odd, strings.Repeat("\x01", 3), false)
		}
	}
}

// wantKeep looks which one goes: "old", "new", or none.
func wantKeep(t *testing.T, old int, greater, here, in bool, want string) {
	t.Helper()
	a, b := admit.Keep(old, greater, here, in)
	if a != (want == "old") || b != (want == "new") {
		t.Errorf("Keep(%d, %t, %t, %t) = %t, %t, want %q", old, greater, here, in, a, b, want)
	}
}

func TestP21_4Examples(t *testing.T) {
	wantKeep(t, api.Established, true, true, true, "new")
	wantKeep(t, api.OpenSent, true, true, true, "new")
	wantKeep(t, api.OpenConfirm, false, true, true, "old")
	wantKeep(t, api.OpenSent, true, false, false, "old")
	wantKeep(t, api.Idle, true, true, false, "old")
	for way := range 8 {
		wantKeep(t, 0, way&4 != 0, way&2 != 0, way&1 != 0, "")
	}
}

// The table of the eight ways, by greater, here, in: of every state that is not Established it is the same.
func TestP21_4EachStateAndWay(t *testing.T) {
	for _, c := range []struct {
		greater, here, in bool
		want              string
	}{
		{true, true, true, "new"},    // the own one is the older one, and stays
		{true, false, false, "old"},  // the own one is the newer one, and stays
		{false, true, true, "old"},   // the other side's is the newer one, and stays
		{false, false, false, "new"}, // the other side's is the older one, and stays
		{true, true, false, "old"},   // this side began both
		{false, true, false, "old"},
		{true, false, true, "old"}, // the other side began both
		{false, false, true, "old"},
	} {
		for _, old := range []int{api.Idle, api.Connect, api.Active, api.OpenSent, api.OpenConfirm} {
			wantKeep(t, old, c.greater, c.here, c.in, c.want)
		}
		wantKeep(t, api.Established, c.greater, c.here, c.in, "new")
		for _, old := range []int{-1 << 63, -1 << 32, -7, -6, -1, 0, 7, 8, 255, 1<<32 + 1, 1<<32 + 6, 1<<63 - 1} {
			wantKeep(t, old, c.greater, c.here, c.in, "")
		}
	}
}

// Just one of the two goes, of each of the six states.
func TestP21_4JustOne(t *testing.T) {
	for old := -20; old <= 20; old++ {
		for way := range 8 {
			greater, here, in := way&4 != 0, way&2 != 0, way&1 != 0
			wantKeep(t, old, greater, here, in, modelKeep(old, greater, here, in))
			a, b := admit.Keep(old, greater, here, in)
			if (a != b) != (old >= 1 && old <= 6) {
				t.Errorf("Keep(%d, %t, %t, %t) = %t, %t", old, greater, here, in, a, b)
			}
		}
	}
}
