package graph

// open is a block that was entered and not left yet.
type open struct {
	block  int
	looked int // how many of those it goes to were looked at
}

// walk walks from the block 0: it tells enter each block and the one it is walked from (-1 of the block 0), and leave each block.
// It keeps a list of its own of what is open, as a line of blocks may be longer than calls can stand within one another,
// and asks a map what was seen, as n may be far more than the blocks that are come to.
func walk(n int, to [][]int, enter func(block, from int), leave func(block int)) {
	if n <= 0 {
		return
	}
	seen := map[int]int{}
	var path []open
	come := func(block, from int) {
		seen[block] = len(seen)
		enter(block, from)
		path = append(path, open{block: block})
	}
	come(0, -1)
	for len(path) > 0 {
		top := &path[len(path)-1]
		next, ok := nextOf(to, top)
		if !ok {
			path = path[:len(path)-1]
			leave(top.block)
			continue
		}
		if _, ok := seen[next]; !ok && isBlock(n, next) {
			come(next, top.block)
		}
	}
}

// nextOf tells the next one that an open block goes to, if there is one more, and counts it as looked at.
func nextOf(to [][]int, o *open) (int, bool) {
	list := goesTo(to, o.block)
	if o.looked == len(list) {
		return 0, false
	}
	o.looked++
	return list[o.looked-1], true
}

// goesTo is the list of where a block goes, with what is no block, too.
func goesTo(to [][]int, block int) []int {
	if block >= len(to) {
		return nil
	}
	return to[block]
}
