package fsm

import "herald/api"

func noteOf(code, sub uint8) api.Note { return api.Note{Code: code, Sub: sub} }

func does(kind int) api.Act { return api.Act{Kind: kind} }

func arm(timer, ticks int) api.Act {
	return api.Act{Kind: api.ActArm, Timer: timer, Ticks: ticks}
}

func cancel(timer int) api.Act { return api.Act{Kind: api.ActCancel, Timer: timer} }
