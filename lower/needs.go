package lower

import "ferrule/api"

// needs tells where the words of a function's registers are needed.
type needs struct {
	f     *api.LowFunc
	reads []int // of each register: how many times it is read

	// What follows is found out when it is asked for: mostly nobody asks.

	from    [][]int // of each block: those that go to it
	asks    [][]int // of each register: the blocks that read it with nothing ahead that sets it
	sets    [][]int // of each register: the blocks that set it
	walked  map[int]int
	needed  map[spot]int // of the registers that were walked: behind which blocks' ends their words are needed
	walks   int
	setsIt  []int // of each block: the last walk whose register it sets
	comesTo []int // of each block: the last walk that came to its beginning
}

// spot is a register behind a block's end.
type spot struct{ block, reg int }

func newNeeds(f *api.LowFunc) *needs {
	n := &needs{f: f, reads: make([]int, f.Regs), walked: map[int]int{}, needed: map[spot]int{}}
	count := func(reg *int) { n.reads[*reg]++ }
	for k := range f.Blocks {
		for at := range f.Blocks[k].List {
			eachRead(&f.Blocks[k].List[at], count)
		}
		eachEndRead(&f.Blocks[k].Term, count)
	}
	return n
}

// behind tells whether a word that a block's end reads is needed behind that, too.
func (n *needs) behind(block, reg int) bool {
	if n.reads[reg] == 1 {
		return false
	}
	if n.walked[reg] == 0 {
		n.walked[reg] = 1
		n.walk(reg, func(int) {}, func(from int) { n.needed[spot{from, reg}] = 1 })
	}
	return n.needed[spot{block, reg}] == 1
}

// walk goes over the blocks at whose beginnings a register's word is needed, and over those behind whose ends it is; of these some may come more than once.
func (n *needs) walk(reg int, beginning, end func(block int)) {
	if n.from == nil {
		n.learn()
	}
	n.walks++
	for _, block := range n.sets[reg] {
		n.setsIt[block] = n.walks
	}
	var open []int
	come := func(block int) {
		if n.comesTo[block] != n.walks {
			n.comesTo[block] = n.walks
			open = append(open, block)
		}
	}
	for _, block := range n.asks[reg] {
		come(block)
	}
	for len(open) > 0 {
		block := open[len(open)-1]
		open = open[:len(open)-1]
		beginning(block)
		for _, from := range n.from[block] {
			end(from)
			if n.setsIt[from] != n.walks {
				come(from)
			}
		}
	}
}

// learn finds out how blocks hang together, and what each of them does first with its registers.
func (n *needs) learn() {
	blocks := n.f.Blocks
	n.from = make([][]int, len(blocks))
	n.setsIt, n.comesTo = make([]int, len(blocks)), make([]int, len(blocks))
	n.asks, n.sets = make([][]int, n.f.Regs), make([][]int, n.f.Regs)
	for k := range blocks {
		eachGoal(&blocks[k].Term, func(to *int) { n.from[*to] = append(n.from[*to], k) })
		read := func(reg *int) {
			if !endsWith(n.asks[*reg], k) && !endsWith(n.sets[*reg], k) {
				n.asks[*reg] = append(n.asks[*reg], k)
			}
		}
		set := func(reg *int) {
			if !endsWith(n.sets[*reg], k) {
				n.sets[*reg] = append(n.sets[*reg], k)
			}
		}
		for at := range blocks[k].List {
			eachRead(&blocks[k].List[at], read)
			eachSet(&blocks[k].List[at], set)
		}
		eachEndRead(&blocks[k].Term, read)
	}
}

func endsWith(list []int, n int) bool { return len(list) > 0 && list[len(list)-1] == n }
