package lower

import "ferrule/api"

// eachRead goes over the registers that an instruction reads; what only stands for one is left out.
func eachRead(in *api.Low, do func(reg *int)) {
	switch in.Op {
	case api.LoLi, api.LoRead, api.LoAlloc:
	case api.LoCall:
		eachOf(in.Args, do)
	case api.LoBin, api.LoSw:
		one(&in.A, do)
		one(&in.B, do)
	default:
		one(&in.A, do)
	}
}

// eachSet goes over the registers that an instruction sets.
func eachSet(in *api.Low, do func(reg *int)) {
	switch in.Op {
	case api.LoSw, api.LoPrint, api.LoFree:
	case api.LoCall:
		eachOf(in.Dsts, do)
	default:
		one(&in.D, do)
	}
}

// eachEndRead goes over the registers that an end reads.
func eachEndRead(t *api.LowTerm, do func(reg *int)) {
	switch t.Kind {
	case api.TeIf:
		one(&t.A, do)
		one(&t.B, do)
	case api.TeReturn:
		eachOf(t.Args, do)
	}
}

func eachOf(list []int, do func(reg *int)) {
	for k := range list {
		one(&list[k], do)
	}
}

func one(reg *int, do func(reg *int)) {
	if *reg >= 0 {
		do(reg)
	}
}

// eachGoal goes over what an end goes to.
func eachGoal(t *api.LowTerm, do func(to *int)) {
	if t.Kind == api.TeGoto || t.Kind == api.TeIf {
		do(&t.To)
	}
	if t.Kind == api.TeIf {
		do(&t.Else)
	}
}
