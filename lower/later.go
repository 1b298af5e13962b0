package lower

import (
	"ferrule/api"
	"ferrule/needs"
)

// later tells which words that ends read are needed later, too.
type later struct {
	f     *api.LowFunc
	reads []int // of each register: how many times it is read

	// What follows is found out when it is asked for: mostly nobody asks.

	ways   *needs.Needs
	walked map[int]int
	needed map[spot]int // of the registers that were walked: behind which blocks' ends their words are needed
}

// spot is a register behind a block's end.
type spot struct{ block, reg int }

func newLater(f *api.LowFunc) *later {
	n := &later{f: f, reads: make([]int, f.Regs), walked: map[int]int{}, needed: map[spot]int{}}
	count := func(reg *int) { n.reads[*reg]++ }
	for k := range f.Blocks {
		for at := range f.Blocks[k].List {
			needs.EachRead(&f.Blocks[k].List[at], count)
		}
		needs.EachEndRead(&f.Blocks[k].Term, count)
	}
	return n
}

// behind tells whether a word that a block's end reads is needed behind that, too.
func (n *later) behind(block, reg int) bool {
	if n.reads[reg] == 1 {
		return false
	}
	if n.ways == nil {
		n.ways = needs.Of(n.f)
	}
	if n.walked[reg] == 0 {
		n.walked[reg] = 1
		n.ways.Walk(reg, func(int) {}, func(from int) { n.needed[spot{from, reg}] = 1 })
	}
	return n.needed[spot{block, reg}] == 1
}
