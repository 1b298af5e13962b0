package fold

import (
	"ferrule/api"
	"ferrule/graph"
)

// folder folds one function. Its blocks keep their numbers till it is done: one that is left out has no instruction, and an end of no kind.
type folder struct {
	f     api.Mir
	order []int  // the blocks that can be come to, each ahead of those it comes to, but where they go round
	into  []int  // of each block, how many ways of blocks' ends go to it; to the first one goes the call, too
	plain []bool // of each local
}

// folded is a function, folded, in new memory.
func folded(f *api.Mir) api.Mir {
	d := &folder{f: copyOf(f)}
	passes := []func(count func()){d.learn, d.trim}
again:
	for {
		d.look()
		for _, pass := range passes {
			changes := 0
			pass(func() { changes++ })
			if changes > 0 {
				continue again
			}
		}
		break
	}
	d.renumber()
	return d.f
}

// look leaves out the blocks that can't be come to, and looks at the others.
func (d *folder) look() {
	blocks := d.f.Blocks
	to := make([][]int, len(blocks))
	for k := range blocks {
		eachGoal(&blocks[k].Term, func(goal *int) { to[k] = append(to[k], *goal) })
	}
	for k, is := range graph.Reach(len(blocks), to) {
		if !is {
			blocks[k] = api.Block{}
		}
	}
	d.order = graph.Order(len(blocks), to)
	d.into = make([]int, len(blocks))
	d.into[0]++
	for _, k := range d.order {
		for _, goal := range to[k] {
			d.into[goal]++
		}
	}
	d.plain = Plain(d.f)
}

// cut takes away a way to a block, and the block with its own ways, if that was the last one to it.
func (d *folder) cut(block int) {
	for ways := []int{block}; len(ways) > 0; ways = ways[1:] {
		k := ways[0]
		d.into[k]--
		if d.into[k] == 0 {
			eachGoal(&d.f.Blocks[k].Term, func(goal *int) { ways = append(ways, *goal) })
			d.f.Blocks[k] = api.Block{}
		}
	}
}

// renumber closes up the blocks that are not left out.
func (d *folder) renumber() {
	numbers := make([]int, len(d.f.Blocks))
	var kept []api.Block
	for k, b := range d.f.Blocks {
		if b.Term.Kind != 0 {
			numbers[k] = len(kept)
			kept = append(kept, b)
		}
	}
	for k := range kept {
		eachGoal(&kept[k].Term, func(goal *int) { *goal = numbers[*goal] })
	}
	d.f.Blocks = kept
}
