package polvm

import (
	"herald/api"
	"herald/aspath"
	"herald/comm"
)

// walk is a route on its way through instructions, with what these need besides. Its lists may be those that were handed in: an action puts a new one in a list's place, and changes none.
type walk struct {
	api.Route
	as    uint32
	known shelf
}

// through goes from the first instruction on until one ends it, and tells whether the route is accepted. They are those of a program that may be: each step leads behind its own place, and the last one ends it.
func (w *walk) through(l []api.Ins) (accepted bool, err api.Errno) {
	next := 0
steps:
	for {
		ins := l[next]
		next++
		switch ins.Kind {
		case api.InsMatch:
			if !w.known.holds(ins.Cond, w.Route) {
				next = ins.To
			}
		case api.InsAct:
			switch ins.Act.Kind {
			case api.DoAccept:
				accepted = true
				break steps
			case api.DoReject:
				break steps
			}
			if err = w.do(ins.Act); err != api.OK {
				break steps
			}
		case api.InsEnd:
			accepted = ins.N == 1
			break steps
		}
	}
	return accepted, err
}

// do does an action that may be; the set that it asks is there. With an error the route counts for nothing.
func (w *walk) do(a api.Action) api.Errno { return w.doing(a.Kind)(a) }

// doing tells what actions of a kind do.
func (w *walk) doing(kind int) func(a api.Action) api.Errno {
	switch kind {
	case api.DoPref:
		return w.setPref
	case api.DoMed:
		return w.setMed
	case api.DoNoMed:
		return w.dropMed
	case api.DoAdd:
		return w.addComm
	case api.DoDel:
		return w.dropComms
	case api.DoPrepend:
		return w.prepend
	case api.DoNext:
		return w.setNext
	case api.DoOrigin:
		return w.setOrigin
	}
	return w.stay
}

// stay leaves the route as it is.
func (w *walk) stay(api.Action) api.Errno { return api.OK }

func (w *walk) setPref(a api.Action) api.Errno {
	w.Attrs.HasPref, w.Attrs.Pref = true, a.N
	return api.OK
}

func (w *walk) setMed(a api.Action) api.Errno {
	w.Attrs.HasMed, w.Attrs.Med = true, a.N
	return api.OK
}

func (w *walk) dropMed(api.Action) api.Errno {
	w.Attrs.HasMed, w.Attrs.Med = false, 0
	return api.OK
}

func (w *walk) addComm(a api.Action) (err api.Errno) {
	w.Attrs.Comms, err = comm.With(w.Attrs.Comms, a.N)
	return err
}

func (w *walk) dropComms(a api.Action) api.Errno {
	w.Attrs.Comms = comm.Without(w.Attrs.Comms, w.known[a.Name].Comms)
	return api.OK
}

// prepend puts the own AS ahead; that this one is 0 is ErrArg, as aspath says it.
func (w *walk) prepend(a api.Action) (err api.Errno) {
	for range a.N {
		if w.Attrs.Path, err = aspath.Prepend(w.Attrs.Path, w.as, false); err != api.OK {
			return err
		}
	}
	return api.OK
}

func (w *walk) setNext(a api.Action) api.Errno {
	w.Attrs.Next = a.Addr
	return api.OK
}

func (w *walk) setOrigin(a api.Action) api.Errno {
	w.Attrs.Origin = int(a.N)
	return api.OK
}
