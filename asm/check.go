package asm

import (
	"ferrule/api"
	"ferrule/insn"
)

// mostPads is how many words all lines of api.AsPad may have together.
const mostPads = 1 << 20

const jumpOp = "jal"

// areFormed tells whether all lines are of a kind that there is, and have no more pads than may be.
func areFormed(l []api.Asm) bool {
	room := mostPads
	for _, line := range l {
		if line.Kind < api.AsInsn || line.Kind > api.AsPad {
			return false
		}
		if line.Kind != api.AsPad || line.N <= 0 {
			continue
		}
		if line.N > room {
			return false
		}
		room -= line.N
	}
	return true
}

// labelsOf tells which line has each label; false: two have one, or one that is gone to none has.
func labelsOf(l []api.Asm) (map[string]int, bool) {
	labels := map[string]int{}
	for k, line := range l {
		if line.Kind != api.AsLabel {
			continue
		}
		if _, twice := labels[line.Label]; twice {
			return nil, false
		}
		labels[line.Label] = k
	}
	for _, line := range l {
		if line.Kind != api.AsBranch && line.Kind != api.AsJump {
			continue
		}
		if _, is := labels[line.Label]; !is {
			return nil, false
		}
	}
	return labels, true
}

// areLegal tells whether each line that has an instruction has one that its kind takes.
func areLegal(l []api.Asm) bool {
	for _, line := range l {
		if !isLegal(line) {
			return false
		}
	}
	return true
}

func isLegal(line api.Asm) bool {
	i := line.Insn
	switch line.Kind {
	case api.AsInsn:
		return encodes(i)
	case api.AsBranch:
		return opposite(i.Op) != "" && encodes(withImm(i, 0))
	case api.AsJump:
		return i.Op == jumpOp && encodes(withImm(i, 0))
	}
	return true
}

func encodes(i api.Insn) bool {
	_, ok := insn.Encode(i)
	return ok
}

// opposite tells which branch goes just where this one does not; "" of what is no branch.
func opposite(op string) string {
	for _, pair := range [...][2]string{{"beq", "bne"}, {"blt", "bge"}, {"bltu", "bgeu"}} {
		switch op {
		case pair[0]:
			return pair[1]
		case pair[1]:
			return pair[0]
		}
	}
	return ""
}
