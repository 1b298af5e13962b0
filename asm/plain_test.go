package asm_test

import (
	"math/big"
	"slices"

	"ferrule/api"
	"ferrule/insn"
)

// A plain telling of the chapter, line by line and apart from asm.

// telling is where lines stand, which of them are long branches, and how often some became long.
type telling struct {
	at     []int
	size   int
	long   []bool
	rounds int
}

// plainly lets the sizes grow: all branches are short at first, and all that are too far become long at one time, until none is.
func plainly(l []api.Asm) telling {
	p := telling{at: make([]int, len(l)), long: make([]bool, len(l))}
	lines := labelLines(l)
	for {
		p.stand(l)
		var far []int
		for k, line := range l {
			if line.Kind == api.AsBranch && !p.long[k] && tooFar(p.at[lines[line.Label]]-p.at[k]) {
				far = append(far, k)
			}
		}
		if len(far) == 0 {
			return p
		}
		for _, k := range far {
			p.long[k] = true
		}
		p.rounds++
	}
}

// labelLines tells which line has each label.
func labelLines(l []api.Asm) map[string]int {
	lines := map[string]int{}
	for k, line := range l {
		if line.Kind == api.AsLabel {
			lines[line.Label] = k
		}
	}
	return lines
}

// stand sums up the sizes ahead of each line.
func (p *telling) stand(l []api.Asm) {
	p.size = 0
	for k, line := range l {
		p.at[k] = p.size
		switch {
		case line.Kind == api.AsPad:
			p.size += 4 * max(line.N, 0)
		case line.Kind == api.AsBranch && p.long[k]:
			p.size += 8
		case line.Kind != api.AsLabel:
			p.size += 4
		}
	}
}

// tooFar tells whether a short branch can't go so far.
func tooFar(way int) bool { return way < -4096 || way > 4094 }

// plainFault tells the first of the chapter's faults that is so of any line, and where lines stand that have none.
func plainFault(l []api.Asm) (api.Errno, telling) {
	switch {
	case plainForm(l):
		return api.ErrForm, telling{}
	case plainLabel(l):
		return api.ErrLabel, telling{}
	case slices.ContainsFunc(l, plainIllegal):
		return api.ErrIllegal, telling{}
	}
	p := plainly(l)
	if p.size > 65536 {
		return api.ErrImage, telling{}
	}
	return api.OK, p
}

// plainForm tells whether ErrForm is so.
func plainForm(l []api.Asm) bool {
	most, sum := big.NewInt(1<<20), new(big.Int)
	for _, line := range l {
		switch line.Kind {
		case api.AsInsn, api.AsLabel, api.AsBranch, api.AsJump:
		case api.AsPad:
			sum.Add(sum, big.NewInt(int64(max(line.N, 0))))
		default:
			return true
		}
	}
	return sum.Cmp(most) > 0
}

// plainLabel tells whether ErrLabel is so.
func plainLabel(l []api.Asm) bool {
	many := map[string]int{}
	for _, line := range l {
		if line.Kind == api.AsLabel {
			many[line.Label]++
		}
	}
	return slices.ContainsFunc(l, func(line api.Asm) bool {
		switch line.Kind {
		case api.AsLabel:
			return many[line.Label] > 1
		case api.AsBranch, api.AsJump:
			return many[line.Label] == 0
		}
		return false
	})
}

// opposites are the six branches.
func opposites() map[string]string {
	return map[string]string{"beq": "bne", "bne": "beq", "blt": "bge", "bge": "blt", "bltu": "bgeu", "bgeu": "bltu"}
}

// plainIllegal tells whether ErrIllegal is so of a line.
func plainIllegal(line api.Asm) bool {
	i := line.Insn
	switch line.Kind {
	case api.AsBranch:
		if opposites()[i.Op] == "" {
			return true
		}
		i.Imm = 0
	case api.AsJump:
		if i.Op != "jal" {
			return true
		}
		i.Imm = 0
	case api.AsLabel, api.AsPad:
		return false
	}
	_, ok := insn.Encode(i)
	return !ok
}
