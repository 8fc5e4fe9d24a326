package update

import (
	"cmp"
	"slices"

	"herald/api"
	"herald/attr"
	"herald/nlri"
	"herald/reach"
	"herald/wire"
)

// lengthSize is how many bytes tell how many a part of the body takes.
const lengthSize = 2

// The types of attributes that the body itself is asked for.
const (
	typeOrigin = 1
	typePath   = 2
	typeNext   = 3
	typeReach  = 14
	typeGone   = 15
)

// The two highest bits of Flags: what the types of other families' prefixes have there, and both.
const (
	optional = 0x80
	highest  = 0xc0
)

// Encode lays the body of an update, by what a session agreed upon.
func Encode(u api.Update, s api.Session) (string, api.Errno) {
	if !mayBe(u) || !isOf(u, s) {
		return "", api.ErrArg
	}
	add := slices.Contains(s.Send, api.V4)
	withdrawn, _ := nlri.Encode(u.Withdrawn, api.V4, add)
	reached, _ := nlri.Encode(u.Reach, api.V4, add)
	attrs, err := layAttrs(u, s)
	if err != api.OK || 2*lengthSize+len(withdrawn)+len(attrs)+len(reached) > api.MaxBody {
		return "", api.ErrLong
	}
	return counted(withdrawn) + counted(attrs) + reached, api.OK
}

// isOf tells whether an update that may be is one of the session.
func isOf(u api.Update, s api.Session) bool {
	return fits(plain(u), api.V4, s) && fits(u.More, u.Fam, s) && fits(u.Gone, u.GoneFam, s) &&
		// Of an end there is no told prefix that asks for the family.
		(u.GoneFam == 0 || slices.Contains(s.Fams, u.GoneFam))
}

// fits tells whether told prefixes of a family, if there are any, may be told in the session.
func fits(l []api.Nlri, fam int, s api.Session) bool {
	if len(l) == 0 {
		return true
	}
	withIds := slices.ContainsFunc(l, func(n api.Nlri) bool { return n.Id > 0 })
	return slices.Contains(s.Fams, fam) && (!withIds || slices.Contains(s.Send, fam))
}

// counted lays so few bytes that two can count them behind their count.
func counted(part string) string {
	count, _ := wire.Put("", uint64(len(part)), lengthSize)
	return count + part
}

// layAttrs lays the attributes of an update of the session; ErrLong, if they alone are too many bytes.
func layAttrs(u api.Update, s api.Session) (string, api.Errno) {
	var l []api.Raw
	if u.Has {
		l, _ = attr.Write(u.Attrs, s.Four)
	}
	if u.Fam != 0 {
		value, err := reach.Put(u.Fam, u.Next, u.More, slices.Contains(s.Send, u.Fam))
		if err != api.OK {
			return "", err
		}
		l = behind(l, typeReach, value)
	}
	if u.GoneFam != 0 {
		value, err := reach.PutGone(u.GoneFam, u.Gone, slices.Contains(s.Send, u.GoneFam))
		if err != api.OK {
			return "", err
		}
		l = behind(l, typeGone, value)
	}
	slices.SortFunc(l, func(x, y api.Raw) int { return cmp.Compare(x.Type, y.Type) })
	return attr.Lay(l)
}

// behind puts an attribute of other families' prefixes behind the list, in new memory.
func behind(l []api.Raw, typ uint8, value string) []api.Raw {
	n := len(l)
	return append(l[:n:n], api.Raw{Flags: optional, Type: typ, Value: value})
}
