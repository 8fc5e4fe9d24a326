package update

import (
	"slices"

	"herald/api"
	"herald/attr"
	"herald/nlri"
	"herald/reach"
	"herald/wire"
)

// The notifications of a Reset.
const (
	codeUpdate   = 3
	subMalformed = 1
	subFlags     = 4
	subOptional  = 9
	subPrefixes  = 10
)

func reset(sub uint8) api.Verdict {
	return api.Verdict{Action: api.Reset, Code: codeUpdate, Sub: sub}
}

// Decode reads the body of an update, by what a session agreed upon, and tells what is to be done of what is wrong with it.
func Decode(b string, s api.Session, internal bool) (api.Update, api.Verdict) {
	withdrawn, attrs, reached, whole := parts(b)
	if !whole {
		return api.Update{}, reset(subMalformed)
	}
	u, taken := takePlain(withdrawn, reached, s)
	if !taken {
		return api.Update{}, reset(subPrefixes)
	}
	// Of attributes that do not come out even there are none.
	l, even := attr.Split(attrs)
	a, v := attr.Read(l, s.Four, internal)
	if v.Action == api.Reset {
		return api.Update{}, v
	}
	if wrong := takeFamilies(&u, l, s); wrong.Action == api.Reset {
		return api.Update{}, wrong
	}
	if !slices.Contains(s.Fams, api.V4) {
		u.Withdrawn, u.Reach = nil, nil
	}
	if !even || lacks(u, l) {
		v = api.Verdict{Action: api.Withdraw}
	}
	if v.Action != api.Withdraw && tells(u) {
		u.Has, u.Attrs = true, a
	}
	return u, v
}

// parts cuts a body into its three parts; false, if the lengths in it are more than it has.
func parts(b string) (withdrawn, attrs, reached string, whole bool) {
	r := wire.New(b)
	withdrawn, first := takeCounted(r)
	attrs, second := takeCounted(r)
	return withdrawn, attrs, r.Rest(), first && second
}

// takeCounted takes a part that stands behind its count.
func takeCounted(r *wire.Reader) (string, bool) {
	count, is := r.Number(lengthSize)
	part, whole := r.Take(int(count))
	return part, is && whole
}

// takePlain takes the told prefixes of V4; false, if their bytes are wrong, though V4 may not have been agreed upon.
func takePlain(withdrawn, reached string, s api.Session) (api.Update, bool) {
	add := slices.Contains(s.Take, api.V4)
	gone, err := nlri.Decode(withdrawn, api.V4, add)
	if err != api.OK {
		return api.Update{}, false
	}
	told, err := nlri.Decode(reached, api.V4, add)
	if err != api.OK {
		return api.Update{}, false
	}
	return api.Update{Withdrawn: gone, Reach: told}, true
}

// takeFamilies takes what the first attributes of the two types of other families' prefixes have, and tells the first thing that is wrong.
func takeFamilies(u *api.Update, l []api.Raw, s api.Session) api.Verdict {
types:
	for _, typ := range [...]uint8{typeReach, typeGone} {
		for _, raw := range l {
			switch {
			case raw.Type != typ:
				continue
			case raw.Flags&highest != optional:
				return reset(subFlags)
			case takeFamily(u, raw, s) == api.ErrForm:
				return reset(subOptional)
			}
			// Taken or passed by: none behind the first one of its type counts.
			continue types
		}
	}
	return api.Verdict{}
}

// takeFamily takes what one such attribute has, unless it is passed by.
func takeFamily(u *api.Update, raw api.Raw, s api.Session) api.Errno {
	if raw.Type == typeReach {
		return takeReach(u, raw.Value, s)
	}
	fam, l, err := reach.TakeGone(raw.Value, s.Take)
	if err == api.OK && slices.Contains(s.Fams, fam) {
		u.GoneFam, u.Gone = fam, l
	}
	return err
}

func takeReach(u *api.Update, value string, s api.Session) api.Errno {
	fam, next, l, err := reach.Take(value, s.Take)
	if err == api.OK && len(l) > 0 && slices.Contains(s.Fams, fam) {
		u.Fam, u.Next, u.More = fam, next, l
	}
	return err
}

// lacks tells whether an attribute that what is told needs is not there, be it right or wrong.
func lacks(u api.Update, l []api.Raw) bool {
	has := func(typ uint8) bool {
		return slices.ContainsFunc(l, func(raw api.Raw) bool { return raw.Type == typ })
	}
	return tells(u) && (!has(typeOrigin) || !has(typePath)) || len(u.Reach) > 0 && !has(typeNext)
}
