package needs

import "ferrule/api"

// EachRead goes over the registers that an instruction reads; what only stands for one is left out.
func EachRead(in *api.Low, do func(reg *int)) {
	switch in.Op {
	case api.LoLi, api.LoRead, api.LoAlloc:
	case api.LoCall:
		EachOf(in.Args, do)
	case api.LoBin, api.LoSw:
		one(&in.A, do)
		one(&in.B, do)
	default:
		one(&in.A, do)
	}
}

// EachSet goes over the registers that an instruction sets.
func EachSet(in *api.Low, do func(reg *int)) {
	switch in.Op {
	case api.LoSw, api.LoPrint, api.LoFree:
	case api.LoCall:
		EachOf(in.Dsts, do)
	default:
		one(&in.D, do)
	}
}

// EachEndRead goes over the registers that an end reads.
func EachEndRead(t *api.LowTerm, do func(reg *int)) {
	switch t.Kind {
	case api.TeIf:
		one(&t.A, do)
		one(&t.B, do)
	case api.TeReturn:
		EachOf(t.Args, do)
	}
}

// EachOf goes over the registers of a list.
func EachOf(list []int, do func(reg *int)) {
	for k := range list {
		one(&list[k], do)
	}
}

func one(reg *int, do func(reg *int)) {
	if *reg >= 0 {
		do(reg)
	}
}

// EachGoal goes over what an end goes to.
func EachGoal(t *api.LowTerm, do func(to *int)) {
	if t.Kind == api.TeGoto || t.Kind == api.TeIf {
		do(&t.To)
	}
	if t.Kind == api.TeIf {
		do(&t.Else)
	}
}
