package fold

import (
	"ferrule/api"
	"ferrule/mir"
)

// known are the words of plain locals that are numbers, at a point of a block.
type known map[int]int

// learn goes over each block with what is known there, and lets one that is gone on to from one block alone be a part of that.
func (d *folder) learn(count func()) {
	for _, k := range d.order {
		d.learnFrom(k, count)
	}
}

// learnFrom goes over a block. What is known at its end is still known in the next one, if that becomes a part of it: so a line of blocks is gone over once.
func (d *folder) learnFrom(block int, count func()) {
	b, now, done := &d.f.Blocks[block], known{}, 0
	for {
		for ; done < len(b.List); done++ {
			d.learnInstr(&b.List[done], now, count)
		}
		d.learnEnd(&b.Term, now, count)
		next := b.Term.To
		if b.Term.Kind != api.TeGoto || next == block || d.into[next] > 1 {
			return
		}
		b.List = append(b.List, d.f.Blocks[next].List...)
		b.Term = d.f.Blocks[next].Term
		d.f.Blocks[next] = api.Block{}
		count()
	}
}

func (d *folder) learnInstr(in *api.Instr, now known, count func()) {
	eachOperand(in, now.fill(count))
	if in.Op == api.OpBin && in.A.Const && in.B.Const {
		v, _ := mir.Do(in.Text, in.A.N, in.B.N)
		*in = api.Instr{Op: api.OpSet, Dst: in.Dst, A: number(v)}
		count()
	}
	eachSet(in, func(scalar int) { delete(now, scalar) })
	if in.Op == api.OpSet && in.A.Const && d.plain[in.Dst] {
		now[in.Dst] = word(in.A.N)
	}
}

func (d *folder) learnEnd(t *api.Term, now known, count func()) {
	eachEnd(t, now.fill(count))
	if t.Kind != api.TeIf || !t.A.Const {
		return
	}
	to, not := t.To, t.Else
	if word(t.A.N) == 0 {
		to, not = not, to
	}
	*t = api.Term{Kind: api.TeGoto, To: to}
	d.cut(not)
	count()
}

// fill lays numbers where locals stand whose words are known.
func (now known) fill(count func()) func(o *api.Operand) {
	return func(o *api.Operand) {
		readOf(o, func(local int) {
			if n, is := now[local]; is {
				*o = number(n)
				count()
			}
		})
	}
}
