// Package needs tells which registers a function in the low form reads and sets, and where their words are needed, after the words of shared/doc/19-live.md, to those that tell and that share registers.
package needs

import "ferrule/api"

// Needs is where the words of a function's registers are needed.
type Needs struct {
	Asked map[int][]int // the registers that are live at a block's beginning: the blocks that read them with nothing ahead that sets them

	sets  [][]int // of each register: the blocks that set it
	from  [][]int // of each block: those that go to it
	walks int

	// Of each block, the last walk by which it was so: no walk needs to clear what another one left.

	setsIt []int
	begins []int
	ends   []int
}

// Of tells the needs of a function whose registers and goals are such.
func Of(f *api.LowFunc) *Needs {
	many := len(f.Blocks)
	n := &Needs{Asked: map[int][]int{}, sets: make([][]int, f.Regs), from: make([][]int, many)}
	n.setsIt, n.begins, n.ends = make([]int, many), make([]int, many), make([]int, many)
	for k := range f.Blocks {
		n.learn(k, &f.Blocks[k])
	}
	return n
}

// learn adds where a block goes, and what it needs of those ahead of it.
func (n *Needs) learn(k int, b *api.LowBlock) {
	read := func(reg *int) {
		if !endsWith(n.sets[*reg], k) && !endsWith(n.Asked[*reg], k) {
			n.Asked[*reg] = append(n.Asked[*reg], k)
		}
	}
	set := func(reg *int) {
		if !endsWith(n.sets[*reg], k) {
			n.sets[*reg] = append(n.sets[*reg], k)
		}
	}
	for at := range b.List {
		EachRead(&b.List[at], read)
		EachSet(&b.List[at], set)
	}
	EachEndRead(&b.Term, read)
	EachGoal(&b.Term, func(to *int) { n.from[*to] = append(n.from[*to], k) })
}

func endsWith(list []int, n int) bool { return len(list) > 0 && list[len(list)-1] == n }

// Walk goes over the blocks at whose beginnings a register's word is needed, and over those behind whose ends it is, each of them once.
func (n *Needs) Walk(reg int, beginning, end func(block int)) {
	n.walks++
	for _, block := range n.sets[reg] {
		n.setsIt[block] = n.walks
	}
	var open []int
	come := func(block int) {
		if n.begins[block] != n.walks {
			n.begins[block] = n.walks
			open = append(open, block)
			beginning(block)
		}
	}
	leave := func(block int) {
		if n.ends[block] != n.walks {
			n.ends[block] = n.walks
			end(block)
		}
	}
	for _, block := range n.Asked[reg] {
		come(block)
	}
	for len(open) > 0 {
		block := open[len(open)-1]
		open = open[:len(open)-1]
		for _, from := range n.from[block] {
			leave(from)
			if n.setsIt[from] != n.walks {
				come(from)
			}
		}
	}
}
