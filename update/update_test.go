package update_test

import (
	"math/rand"
	"slices"
	"strings"
	"testing"

	"herald/api"
	"herald/update"
)

type change = func(u *api.Update)

// rights are updates that may be, near the edges of what may.
func rights() []api.Update {
	l := []api.Update{
		{}, deep(api.Update{}), {Withdrawn: list(ten())}, {Withdrawn: two(api.V4)}, {Withdrawn: slices.Repeat(two(api.V4), 3)},
		{Withdrawn: withIds(two(api.V4))}, reached(), full(), deep(full()),
		with(reached(), func(u *api.Update) { u.Reach = withIds(two(api.V4)) }),
		with(reached(), func(u *api.Update) { u.Attrs = rich() }),
		with(reached(), func(u *api.Update) { u.Withdrawn = u.Reach }),
	}
	for _, fam := range fams {
		l = append(l, more(fam), gone(fam), api.Update{GoneFam: fam},
			with(more(fam), func(u *api.Update) { u.Attrs.Next = hop }),
			with(more(fam), func(u *api.Update) { u.More = withIds(u.More[:1]) }),
			with(more(fam), func(u *api.Update) { u.GoneFam, u.Gone = fam, u.More }),
			with(more(fam), func(u *api.Update) { u.Attrs = rich() }),
			with(more(fam), func(u *api.Update) { u.Next = strings.Repeat("\x00", len(u.Next)) }),
			with(reached(), func(u *api.Update) { u.GoneFam = fam }),
			with(full(), func(u *api.Update) { u.Fam, u.Next, u.More = fam, hopOf(fam), two(fam) }),
			with(full(), func(u *api.Update) { u.GoneFam, u.Gone = fam, two(fam) }))
	}
	return l
}

// strays are told prefixes that may not be, or are of another family.
func strays(fam int) []api.Nlri {
	f := families[fam]
	var l []api.Nlri
	for _, other := range fams {
		if other != fam {
			l = append(l, told(other, 8, 0, 0))
		}
	}
	for _, do := range []func(n *api.Nlri){
		func(n *api.Nlri) { n.Prefix.Fam = 0 }, func(n *api.Nlri) { n.Prefix.Fam = 6 }, func(n *api.Nlri) { n.Prefix.Fam += 256 },
		func(n *api.Nlri) { n.Prefix.Len = -1 }, func(n *api.Nlri) { n.Prefix.Len = 8*f.size + 1 }, func(n *api.Nlri) { n.Prefix.Len = 0 },
		func(n *api.Nlri) { n.Prefix.Addr = "" }, func(n *api.Nlri) { n.Prefix.Addr += "\x00" }, func(n *api.Nlri) { n.Label = api.MaxLabel + 1 },
	} {
		n := told(fam, 8, 0, 0)
		do(&n)
		l = append(l, n)
	}
	if !f.labels {
		n := told(fam, 8, 0, 0)
		n.Label = 1
		l = append(l, n)
	}
	if !f.rd {
		n := told(fam, 8, 0, 0)
		n.Prefix.RD = 1
		l = append(l, n)
	}
	return append(l, api.Nlri{})
}

// strayed are updates in whose lists one told prefix is a stray.
func strayed() []api.Update {
	var l []api.Update
	put := func(u api.Update, at func(u *api.Update) *[]api.Nlri, fam int) {
		for _, n := range strays(fam) {
			for place := range len(*at(&u)) + 1 {
				l = append(l, with(u, func(u *api.Update) { *at(u) = slices.Insert(*at(u), place, n) }))
			}
		}
	}
	put(full(), func(u *api.Update) *[]api.Nlri { return &u.Withdrawn }, api.V4)
	put(full(), func(u *api.Update) *[]api.Nlri { return &u.Reach }, api.V4)
	put(api.Update{}, func(u *api.Update) *[]api.Nlri { return &u.Withdrawn }, api.V4)
	put(with(reached(), func(u *api.Update) { u.Reach = nil }), func(u *api.Update) *[]api.Nlri { return &u.Reach }, api.V4)
	for _, fam := range fams {
		put(more(fam), func(u *api.Update) *[]api.Nlri { return &u.More }, fam)
		put(gone(fam), func(u *api.Update) *[]api.Nlri { return &u.Gone }, fam)
	}
	return l
}

// attrChanges are changes of attributes, each of one field, after which they are not zero.
func attrChanges() []func(a *api.Attrs) {
	return []func(a *api.Attrs){
		func(a *api.Attrs) { a.Origin = 2 }, func(a *api.Attrs) { a.Origin = 3 }, func(a *api.Attrs) { a.Next = some(4) },
		func(a *api.Attrs) { a.Next = some(16) }, func(a *api.Attrs) { a.HasMed = !a.HasMed }, func(a *api.Attrs) { a.Med++ },
		func(a *api.Attrs) { a.HasPref = !a.HasPref }, func(a *api.Attrs) { a.Pref++ }, func(a *api.Attrs) { a.Atomic = !a.Atomic },
		func(a *api.Attrs) { a.AggAS++ }, func(a *api.Attrs) { a.AggId++ }, func(a *api.Attrs) { a.HasOrig = !a.HasOrig },
		func(a *api.Attrs) { a.Orig++ }, func(a *api.Attrs) { a.Comms = append(a.Comms, 5) }, func(a *api.Attrs) { a.Exts = append(a.Exts, 5) },
		func(a *api.Attrs) { a.Larges = append(a.Larges, api.Large{}) }, func(a *api.Attrs) { a.Clusters = append(a.Clusters, 0) },
		func(a *api.Attrs) { a.Path = append(a.Path, api.Seg{}) },
		func(a *api.Attrs) { a.Path = append(a.Path, api.Seg{Kind: api.SegSeq, AS: []uint32{1}}) },
	}
}

// wrongs are updates that may not be, each by one condition alone, as far as that can be.
func wrongs() []api.Update {
	l := strayed()
	break1 := func(u api.Update, changes ...change) {
		for _, do := range changes {
			l = append(l, with(u, do))
		}
	}
	for _, u := range []api.Update{{}, reached(), gone(api.V6)} {
		break1(u, func(u *api.Update) { u.Next = hop }, func(u *api.Update) { u.Next = some(16) }, func(u *api.Update) { u.Next = "\x00" })
	}
	// More without Fam, where Has is right.
	break1(reached(), func(u *api.Update) { u.More = list(ten()) }, func(u *api.Update) { u.More = two(api.V6) })
	break1(api.Update{Has: true}, func(u *api.Update) { u.More = two(api.V6) })
	for _, fam := range fams {
		break1(reached(), func(u *api.Update) { u.Fam, u.Next = fam, hopOf(fam) }, func(u *api.Update) { u.Fam = fam })
		break1(api.Update{}, func(u *api.Update) { u.Fam, u.Next = fam, hopOf(fam) })
		for size := range 40 {
			if size != families[fam].size {
				break1(more(fam), func(u *api.Update) { u.Next = some(size) })
			}
		}
		break1(gone(fam), func(u *api.Update) { u.GoneFam = 0 }, func(u *api.Update) { u.GoneFam = fam%5 + 1 })
		break1(more(fam), func(u *api.Update) { u.Has = false }, func(u *api.Update) { u.Fam = fam%5 + 1 })
	}
	for _, fam := range none {
		if fam != 0 {
			break1(more(api.V4), func(u *api.Update) { u.Fam = fam }, func(u *api.Update) { u.Fam, u.More = fam, nil })
			break1(reached(), func(u *api.Update) { u.Fam = fam }, func(u *api.Update) { u.Fam, u.Next = fam, hop })
			break1(gone(api.V4), func(u *api.Update) { u.GoneFam = fam }, func(u *api.Update) { u.GoneFam, u.Gone = fam, nil })
		}
	}
	break1(reached(), func(u *api.Update) { u.Gone = list(ten()) })
	break1(api.Update{}, func(u *api.Update) { u.Has = true })
	break1(api.Update{Withdrawn: two(api.V4)}, func(u *api.Update) { u.Has = true })
	break1(gone(api.V6), func(u *api.Update) { u.Has = true }, func(u *api.Update) { u.Has, u.Attrs = true, rich() })
	break1(reached(), func(u *api.Update) { u.Has = false }, func(u *api.Update) { u.Has, u.Attrs = false, api.Attrs{} })
	for _, u := range []api.Update{{}, {Withdrawn: two(api.V4)}, gone(api.V6)} {
		for _, do := range attrChanges() {
			break1(u, func(u *api.Update) { do(&u.Attrs) })
		}
	}
	return append(l, wrongAttrs()...)
}

// wrongAttrs are updates that have attributes, and these are wrong.
func wrongAttrs() []api.Update {
	var l []api.Update
	for _, u := range []api.Update{reached(), more(api.V6), more(api.V4), full()} {
		for _, size := range []int{1, 2, 3, 5, 8, 15, 16, 17} {
			l = append(l, with(u, func(u *api.Update) { u.Attrs.Next = some(size) }))
		}
		if len(u.Reach) > 0 {
			l = append(l, with(u, func(u *api.Update) { u.Attrs.Next = "" }))
		}
		for _, do := range []change{
			func(u *api.Update) { u.Attrs.Origin = 3 }, func(u *api.Update) { u.Attrs.Origin = -1 },
			func(u *api.Update) { u.Attrs.HasMed, u.Attrs.Med = false, 1 }, func(u *api.Update) { u.Attrs.HasPref, u.Attrs.Pref = false, 1 },
			func(u *api.Update) { u.Attrs.HasOrig, u.Attrs.Orig = false, 1 }, func(u *api.Update) { u.Attrs.AggAS, u.Attrs.AggId = 0, 1 },
			func(u *api.Update) { u.Attrs.Comms = []uint32{2, 1} }, func(u *api.Update) { u.Attrs.Exts = []uint64{1, 1} },
			func(u *api.Update) { u.Attrs.Larges = []api.Large{{B: 1}, {}} }, func(u *api.Update) { u.Attrs.Clusters = make([]uint32, 33) },
			func(u *api.Update) { u.Attrs.Path = []api.Seg{{}} }, func(u *api.Update) { u.Attrs.Path = []api.Seg{{Kind: 2, AS: []uint32{0}}} },
		} {
			l = append(l, with(u, do))
		}
	}
	return l
}

func TestP11_1MayBe(t *testing.T) {
	for _, u := range rights() {
		if err := update.Check(u); err != api.OK || !may(u) {
			t.Errorf("Check(%s): %d", brief(u), err)
		}
	}
}

// TestP11_1MayNotBe: also of Encode, in sessions that let all through.
func TestP11_1MayNotBe(t *testing.T) {
	for _, u := range wrongs() {
		if err := update.Check(u); err != api.ErrArg || may(u) {
			t.Errorf("Check(%s): %d", brief(u), err)
		}
		wantEncode(t, u, withAll, "", api.ErrArg)
		wantEncode(t, u, every, "", api.ErrArg)
		wantEncode(t, u, api.Session{}, "", api.ErrArg)
	}
}

// TestP11_1Many: updates whose fields come each of another one.
func TestP11_1Many(t *testing.T) {
	r := rand.New(rand.NewSource(111))
	met := map[bool]int{}
	pool := rights()
	pick := func() api.Update { return pool[r.Intn(len(pool))] }
	for range 40000 {
		u := anyUpdate(r, withAll)
		for range r.Intn(3) {
			switch r.Intn(8) {
			case 0:
				u.Withdrawn = pick().More
			case 1:
				u.Attrs = pick().Attrs
			case 2:
				u.Has = pick().Has
			case 3:
				u.Reach = pick().Reach
			case 4:
				u.Fam = r.Intn(7)
			case 5:
				u.Next = pick().Next
			case 6:
				u.More = pick().More
			case 7:
				u.GoneFam = r.Intn(7)
			}
		}
		met[may(u)]++
		if err := update.Check(u); (err == api.OK) != may(u) || err != api.OK && err != api.ErrArg {
			t.Errorf("Check(%s): %d, not %t", brief(u), err, may(u))
		}
	}
	if met[true] < 5000 || met[false] < 5000 {
		t.Errorf("just these were met: %v", met)
	}
}

func TestP11_1Same(t *testing.T) {
	l := rights()
	for i, a := range l {
		for k, b := range l {
			if got, want := update.Same(a, b), same(a, b); got != want {
				t.Errorf("Same(%d %s, %d %s): %t", i, brief(a), k, brief(b), got)
			}
		}
	}
	for _, u := range append(wrongs(), l...) {
		if !update.Same(u, u) || !update.Same(u, deep(u)) || !update.Same(deep(u), u) {
			t.Errorf("Same(%s, itself): false", brief(u))
		}
	}
}

// TestP11_1Differs: one field alone is another one, of updates that may be, and that may not.
func TestP11_1Differs(t *testing.T) {
	changes := []change{
		func(u *api.Update) { u.Has = !u.Has }, func(u *api.Update) { u.Fam++ }, func(u *api.Update) { u.GoneFam-- },
		func(u *api.Update) { u.Next += "\x00" }, func(u *api.Update) { u.Next = some(16)[:15] + "\x00" },
	}
	for _, at := range []func(u *api.Update) *[]api.Nlri{
		func(u *api.Update) *[]api.Nlri { return &u.Withdrawn }, func(u *api.Update) *[]api.Nlri { return &u.Reach },
		func(u *api.Update) *[]api.Nlri { return &u.More }, func(u *api.Update) *[]api.Nlri { return &u.Gone },
	} {
		change := func(do func(l []api.Nlri) []api.Nlri) {
			changes = append(changes, func(u *api.Update) { *at(u) = do(*at(u)) })
		}
		change(func(l []api.Nlri) []api.Nlri { return append(l, ten()) })
		change(func(l []api.Nlri) []api.Nlri { return append(list(api.Nlri{}), l...) })
		for _, do := range []func(n *api.Nlri){
			func(n *api.Nlri) { n.Id++ }, func(n *api.Nlri) { n.Label++ }, func(n *api.Nlri) { n.Prefix.Fam++ },
			func(n *api.Nlri) { n.Prefix.RD++ }, func(n *api.Nlri) { n.Prefix.Len++ }, func(n *api.Nlri) { n.Prefix.Addr += "\x00" },
		} {
			change(func(l []api.Nlri) []api.Nlri {
				if len(l) == 0 {
					return list(api.Nlri{Id: 7})
				}
				do(&l[len(l)-1])
				return l
			})
		}
		// Turned about, they are not the same; of a list that has not two it is one more.
		change(func(l []api.Nlri) []api.Nlri {
			if len(l) < 2 {
				return append(l, api.Nlri{})
			}
			slices.Reverse(l)
			return l
		})
		change(func(l []api.Nlri) []api.Nlri { return append(l, l...) })
	}
	for _, do := range attrChanges() {
		changes = append(changes, func(u *api.Update) { do(&u.Attrs) })
	}
	for _, u := range append(wrongs()[:40], rights()...) {
		for i, do := range changes {
			other := with(u, do)
			if want := same(u, other); update.Same(u, other) != want || update.Same(other, u) != want {
				t.Errorf("change %d: Same(%s, %s): not %t", i, brief(u), brief(other), want)
			}
		}
	}
}

func TestP11_4Ends(t *testing.T) {
	want := map[int]string{api.V4: "0000 0000", api.V6: "0000 0006 800f03 0002 01", api.L4: "0000 0006 800f03 0001 04", api.Vpn4: "0000 0006 800f03 0001 80", api.Vpn6: "0000 0006 800f03 0002 80"}
	for _, fam := range fams {
		u, err := update.End(fam)
		end := api.Update{GoneFam: fam}
		if fam == api.V4 {
			end = api.Update{}
		}
		if err != api.OK || !same(u, end) {
			t.Errorf("End(%d) = %s, %d", fam, brief(u), err)
		}
		for _, x := range []api.Update{u, deep(u), end} {
			if is, ok := update.IsEnd(x); is != fam || !ok {
				t.Errorf("IsEnd(%s) = %d, %t", brief(x), is, ok)
			}
		}
		wantEncode(t, u, every, raw(want[fam]), api.OK)
		wantEncode(t, u, withAll, raw(want[fam]), api.OK)
		wantDecode(t, raw(want[fam]), every, true, u, fine)
		wantDecode(t, raw(want[fam]), withAll, false, u, fine)
	}
	for _, fam := range none {
		if u, err := update.End(fam); err != api.ErrArg || !same(u, api.Update{}) {
			t.Errorf("End(%d) = %s, %d", fam, brief(u), err)
		}
	}
}

// TestP11_4NoEnds: updates that are nearly ends.
func TestP11_4NoEnds(t *testing.T) {
	refuse := func(u api.Update) {
		t.Helper()
		if fam, ok := update.IsEnd(u); fam != 0 || ok {
			t.Errorf("IsEnd(%s) = %d, %t", brief(u), fam, ok)
		}
	}
	// V4's end is the zero update, and no other one.
	refuse(api.Update{GoneFam: api.V4})
	for _, fam := range none {
		if fam != 0 {
			refuse(api.Update{GoneFam: fam})
		}
	}
	for _, fam := range []int{0, 2, 3, 4, 5} {
		end := api.Update{GoneFam: fam}
		for _, do := range []change{
			func(u *api.Update) { u.Withdrawn = list(ten()) }, func(u *api.Update) { u.Withdrawn = list(api.Nlri{}) },
			func(u *api.Update) { u.Reach = list(ten()) }, func(u *api.Update) { u.Has = true },
			func(u *api.Update) { u.More = list(api.Nlri{}) }, func(u *api.Update) { u.Next = "\x00" },
			func(u *api.Update) { u.Fam = 1 }, func(u *api.Update) { u.Fam = u.GoneFam + 1 }, func(u *api.Update) { u.Fam = -1 },
			func(u *api.Update) { u.Gone = list(api.Nlri{}) }, func(u *api.Update) { u.Gone = two(api.V6) },
		} {
			refuse(with(end, do))
		}
		for _, do := range attrChanges() {
			refuse(with(end, func(u *api.Update) { do(&u.Attrs) }))
		}
	}
	for _, u := range rights() {
		fam, ok := update.IsEnd(u)
		empty := same(u, api.Update{GoneFam: u.GoneFam}) && u.GoneFam != api.V4
		if ok != empty || !ok && fam != 0 || ok && fam != max(u.GoneFam, 1) {
			t.Errorf("IsEnd(%s) = %d, %t", brief(u), fam, ok)
		}
	}
}
