package live_test

import (
	"slices"

	"ferrule/api"
	"ferrule/live"
)

// This is the chapter in the plainest words: positions one by one, and of each register and each position, whether it is needed there.

// position is a block's beginning, an instruction, or a block's end.
type position struct {
	block       int
	isBeginning bool
	isEnd       bool
	isCall      bool
	reads, sets []int
	next        []int // the positions that may come next
}

// plain is a function by its positions.
type plain struct {
	f      api.LowFunc
	list   []position
	begins []int   // of each block
	needed [][]int // of each register: 1 at the positions ahead of which it is needed
}

// fromZero are the registers of a list that count.
func fromZero(list ...int) []int {
	return slices.DeleteFunc(slices.Clone(list), func(reg int) bool { return reg < 0 })
}

// plainReads: its A (but LoLi, LoCall, LoRead, LoAlloc), B (of LoBin and LoSw), Args (of LoCall).
func plainReads(in api.Low) (list []int) {
	if !slices.Contains([]int{api.LoLi, api.LoCall, api.LoRead, api.LoAlloc}, in.Op) {
		list = append(list, in.A)
	}
	if slices.Contains([]int{api.LoBin, api.LoSw}, in.Op) {
		list = append(list, in.B)
	}
	if in.Op == api.LoCall {
		list = append(list, in.Args...)
	}
	return fromZero(list...)
}

// plainSets: its D (but LoSw, LoCall, LoPrint, LoFree), Dsts (of LoCall).
func plainSets(in api.Low) (list []int) {
	if !slices.Contains([]int{api.LoSw, api.LoCall, api.LoPrint, api.LoFree}, in.Op) {
		list = append(list, in.D)
	}
	if in.Op == api.LoCall {
		list = append(list, in.Dsts...)
	}
	return fromZero(list...)
}

// plainEnd: an end reads A and B (of TeIf), Args (of TeReturn); ways go through TeGoto and TeIf.
func (p *plain) plainEnd(t api.LowTerm) (reads, next []int) {
	switch t.Kind {
	case api.TeGoto:
		return nil, []int{p.begins[t.To]}
	case api.TeIf:
		return fromZero(t.A, t.B), []int{p.begins[t.To], p.begins[t.Else]}
	case api.TeReturn:
		return fromZero(t.Args...), nil
	}
	return nil, nil
}

func plainOf(f api.LowFunc) *plain {
	p := &plain{f: f}
	at := 0
	for _, b := range f.Blocks {
		p.begins = append(p.begins, at)
		at += len(b.List) + 2
	}
	for k, b := range f.Blocks {
		p.list = append(p.list, position{block: k, isBeginning: true, next: []int{len(p.list) + 1}})
		for _, in := range b.List {
			p.list = append(p.list, position{block: k, isCall: in.Op == api.LoCall, reads: plainReads(in), sets: plainSets(in), next: []int{len(p.list) + 1}})
		}
		reads, next := p.plainEnd(b.Term)
		p.list = append(p.list, position{block: k, isEnd: true, reads: reads, next: next})
	}
	for reg := range f.Regs {
		p.needed = append(p.needed, p.needs(reg))
	}
	return p
}

// needs tells the positions ahead of which a register is needed: those that read it, and, again and again, those that do not set it and behind which it is needed.
func (p *plain) needs(reg int) []int {
	needed := make([]int, len(p.list))
	for more := true; more; {
		more = false
		for at := len(p.list) - 1; at >= 0; at-- {
			x := p.list[at]
			is := slices.Contains(x.reads, reg) || !slices.Contains(x.sets, reg) && slices.ContainsFunc(x.next, func(next int) bool { return needed[next] == 1 })
			if is && needed[at] == 0 {
				needed[at], more = 1, true
			}
		}
	}
	return needed
}

// ahead tells whether a register is needed ahead of a position, behind whether it is behind it.
func (p *plain) ahead(reg, at int) bool { return p.needed[reg][at] == 1 }

func (p *plain) behind(reg, at int) bool {
	return slices.ContainsFunc(p.list[at].next, func(next int) bool { return p.ahead(reg, next) })
}

// seek tells the same as ahead, by a walk along the ways from a position on, till one of them comes to something that reads the register, with nothing that sets it in between.
func (p *plain) seek(reg, at int, seen map[int]bool) bool {
	if seen[at] {
		return false
	}
	seen[at] = true
	x := p.list[at]
	switch {
	case slices.Contains(x.reads, reg):
		return true
	case slices.Contains(x.sets, reg):
		return false
	}
	return slices.ContainsFunc(x.next, func(next int) bool { return p.seek(reg, next, seen) })
}

func (p *plain) live() (in, out [][]int) {
	in, out = make([][]int, len(p.f.Blocks)), make([][]int, len(p.f.Blocks))
	for reg := range p.f.Regs {
		for at, x := range p.list {
			if x.isBeginning && p.ahead(reg, at) {
				in[x.block] = append(in[x.block], reg)
			}
			if x.isEnd && p.behind(reg, at) {
				out[x.block] = append(out[x.block], reg)
			}
		}
	}
	return in, out
}

// isOf tells whether a position is one of a register's.
func (p *plain) isOf(reg, at int) bool {
	x := p.list[at]
	switch {
	case x.isBeginning && p.ahead(reg, at):
	case slices.Contains(x.reads, reg):
	case slices.Contains(x.sets, reg):
	case p.behind(reg, at):
	case at == 0 && slices.Contains(p.f.Params, reg):
	default:
		return false
	}
	return true
}

func (p *plain) ranges() []live.Range {
	var all []live.Range
	for reg := range p.f.Regs {
		r := live.Range{From: -1, To: -1}
		for at := range p.list {
			if p.isOf(reg, at) {
				r.To = at
				if r.From == -1 {
					r.From = at
				}
			}
		}
		for at, x := range p.list {
			r.Calls = r.Calls || x.isCall && at > r.From && at < r.To
		}
		all = append(all, r)
	}
	return all
}
