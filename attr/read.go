package attr

import "herald/api"

// The notifications of a Reset.
const (
	codeUpdate      = 3
	subMalformed    = 1
	subUnrecognized = 2
)

// Read answers the attributes of raw ones, and what is to be done of what is wrong with them.
func Read(l []api.Raw, four, internal bool) (api.Attrs, api.Verdict) {
	var a api.Attrs
	var worst api.Verdict
	var met [256]bool
	for _, raw := range l {
		v := judge(&a, raw, met[raw.Type], four, internal)
		met[raw.Type] = true
		// What is as bad as one ahead does not take its place: the first Reset is told.
		if v.Action > worst.Action {
			worst = v
		}
	}
	if worst.Action >= api.Withdraw {
		return api.Attrs{}, worst
	}
	return a, worst
}

// judge puts one raw attribute into the attributes, or says what is to be done; again, if one ahead has its Type.
func judge(a *api.Attrs, raw api.Raw, again, four, internal bool) api.Verdict {
	if raw.Type == typeReach || raw.Type == typeUnreach {
		if again {
			return reset(subMalformed)
		}
		return api.Verdict{}
	}
	if again {
		return api.Verdict{}
	}
	of, isKnown := rowOf(raw.Type, four)
	switch {
	case !isKnown && raw.Flags&optional == 0:
		return reset(subUnrecognized)
	case !isKnown:
		return api.Verdict{}
	case !internal && isInternal(raw.Type):
		return api.Verdict{Action: api.Discard}
	case raw.Flags&both != of.bits:
		return api.Verdict{Action: api.Withdraw}
	case !of.take(a, raw.Value):
		return api.Verdict{Action: of.wrong}
	}
	return api.Verdict{}
}

// reset is a verdict with a notification of an UPDATE's fault.
func reset(sub uint8) api.Verdict {
	return api.Verdict{Action: api.Reset, Code: codeUpdate, Sub: sub}
}

// isInternal tells whether only those of the own AS have a say in that type.
func isInternal(typ uint8) bool {
	return typ == typePref || typ == typeOriginator || typ == typeClusters
}
