package fold

import "ferrule/api"

// parts are those of an instruction that its operation uses: all others may be anything.
type parts struct {
	local, sets         bool // Dst: a local, and whether its word is set
	a, b, p, q          bool
	number, text, typed bool
	call                bool // Args and Dsts
}

var used = [...]parts{
	api.OpSet:   {local: true, sets: true, a: true},
	api.OpBin:   {local: true, sets: true, a: true, b: true, text: true},
	api.OpLoad:  {local: true, sets: true, p: true},
	api.OpStore: {a: true, p: true},
	api.OpCopy:  {p: true, q: true, number: true},
	api.OpAddr:  {local: true, sets: true, p: true},
	api.OpAlloc: {local: true, sets: true, number: true},
	api.OpFree:  {a: true},
	api.OpDrop:  {p: true, typed: true},
	api.OpGive:  {local: true},
	api.OpTake:  {local: true},
	api.OpClear: {local: true, typed: true},
	api.OpPrint: {a: true, number: true},
	api.OpRead:  {local: true, sets: true},
	api.OpCall:  {text: true, call: true},
}

// partsOf tells what an operation uses; one that is none uses nothing.
func partsOf(op int) parts {
	if op < 0 || op >= len(used) {
		return parts{}
	}
	return used[op]
}

// eachPlace goes over the places of an instruction.
func eachPlace(in *api.Instr, do func(p *api.Place)) {
	has := partsOf(in.Op)
	if has.p {
		do(&in.P)
	}
	if has.q {
		do(&in.Q)
	}
}

// eachOperand goes over the operands of an instruction.
func eachOperand(in *api.Instr, do func(o *api.Operand)) {
	has := partsOf(in.Op)
	if has.a {
		do(&in.A)
	}
	if has.b {
		do(&in.B)
	}
	if has.call {
		eachOf(in.Args, do)
	}
}

// eachSet goes over the scalars whose words an instruction sets.
func eachSet(in *api.Instr, do func(scalar int)) {
	has := partsOf(in.Op)
	if has.sets {
		do(in.Dst)
	}
	if has.call {
		for _, dst := range in.Dsts {
			do(dst)
		}
	}
}

// eachRead goes over the locals whose words an instruction uses, or of which it makes places, a local as often as it stands there.
func eachRead(in *api.Instr, do func(local int)) {
	eachOperand(in, func(o *api.Operand) { readOf(o, do) })
	eachPlace(in, func(p *api.Place) {
		do(p.Local)
		for _, s := range p.Steps {
			if s.Kind == api.StIndex {
				do(s.N)
			}
		}
	})
	if in.Op == api.OpClear {
		do(in.Dst)
	}
}

// eachEnd goes over the operands of a block's end.
func eachEnd(t *api.Term, do func(o *api.Operand)) {
	switch t.Kind {
	case api.TeIf:
		do(&t.A)
	case api.TeReturn:
		eachOf(t.Args, do)
	}
}

// eachGoal goes over the blocks that an end goes to.
func eachGoal(t *api.Term, do func(to *int)) {
	if t.Kind == api.TeGoto || t.Kind == api.TeIf {
		do(&t.To)
	}
	if t.Kind == api.TeIf {
		do(&t.Else)
	}
}

func eachOf(list []api.Operand, do func(o *api.Operand)) {
	for k := range list {
		do(&list[k])
	}
}

// readOf tells the local that an operand is, if it is none of the numbers.
func readOf(o *api.Operand, do func(local int)) {
	if !o.Const {
		do(o.N)
	}
}

// number is an operand.
func number(n int) api.Operand { return api.Operand{Const: true, N: n} }

// word is a number as one.
func word(n int) int { return int(int32(n)) }
