package fold

import (
	"slices"

	"ferrule/api"
)

// spot is where an instruction stands.
type spot struct{ block, at int }

// trimmer takes away what nobody uses, and ways through blocks that do nothing. An instruction that is taken away has no operation till all is done.
type trimmer struct {
	*folder
	count func()
	left  []int          // of each block, how many instructions it still has
	uses  []int          // of each local, how often its word is used, or a place made of it
	spare map[int][]spot // of each local, the instructions that do hardly more than set it
}

// trim goes over the blocks from the last ones on, as those that go to a block can go past it once it has nothing to do.
func (d *folder) trim(count func()) {
	t := &trimmer{folder: d, count: count, left: make([]int, len(d.f.Blocks)), uses: make([]int, len(d.f.Locals)), spare: map[int][]spot{}}
	t.tally()
	for local := range t.uses {
		t.unused(local)
	}
	for _, k := range slices.Backward(d.order) {
		t.end(&d.f.Blocks[k].Term)
	}
	for k := range d.f.Blocks {
		b := &d.f.Blocks[k]
		b.List = slices.DeleteFunc(b.List, func(in api.Instr) bool { return in.Op == 0 })
	}
}

// tally counts what is used.
func (t *trimmer) tally() {
	for k := range t.f.Blocks {
		b := &t.f.Blocks[k]
		t.left[k] = len(b.List)
		for at := range b.List {
			in := &b.List[at]
			t.use(in, 1)
			if isSpare(in) {
				t.spare[in.Dst] = append(t.spare[in.Dst], spot{k, at})
			}
		}
		eachEnd(&b.Term, func(o *api.Operand) { readOf(o, func(local int) { t.uses[local]++ }) })
	}
}

// isSpare tells whether an instruction does nothing but set a local, or hardly more.
func isSpare(in *api.Instr) bool {
	return in.Op == api.OpSet || in.Op == api.OpBin || in.Op == api.OpAddr
}

// use counts what an instruction uses as so many more. That a word is set by what it was is no use of it.
func (t *trimmer) use(in *api.Instr, more int) {
	if !isSpare(in) {
		eachRead(in, func(local int) { t.uses[local] += more })
		return
	}
	rest := t.rest(in)
	eachRead(&rest, func(local int) { t.uses[local] += more })
	eachRead(in, func(local int) {
		if local != in.Dst {
			t.uses[local] += more
		}
	})
}

// rest is what is left to do of a spare instruction, if nobody uses what it sets: nothing, but for an OpAddr that uses words on its way at addresses that may be wrong.
func (t *trimmer) rest(in *api.Instr) api.Instr {
	if in.Op != api.OpAddr {
		return api.Instr{}
	}
	last := lastHeld(&in.P)
	if last < 0 || t.isWithin(in.P.Local, in.P.Steps[:last]) {
		return api.Instr{}
	}
	return api.Instr{Op: api.OpLoad, Dst: in.Dst, P: api.Place{Local: in.P.Local, Steps: in.P.Steps[:last:last]}}
}

// lastHeld tells the last step of a place at which a word is used; -1, if there is none.
func lastHeld(p *api.Place) int {
	for k, s := range slices.Backward(p.Steps) {
		if s.Kind == api.StHeld {
			return k
		}
	}
	return -1
}

// isWithin tells whether steps from a local surely come to one of its own words.
func (t *trimmer) isWithin(local int, steps []api.Step) bool {
	words := 0
	for _, s := range steps {
		if s.Kind != api.StAdd {
			return false
		}
		words += s.N
	}
	return words < t.f.Locals[local]
}

// unused takes away what sets a local that nobody uses, which is plain then, and so on with the locals that were used for that.
func (t *trimmer) unused(local int) {
	for list := []int{local}; len(list) > 0; list = list[1:] {
		if t.uses[list[0]] > 0 {
			continue
		}
		for _, s := range t.spare[list[0]] {
			in := &t.f.Blocks[s.block].List[s.at]
			eachRead(in, func(read int) { list = append(list, read) })
			t.take(s.block, in)
		}
		delete(t.spare, list[0])
	}
}

// take takes a spare instruction away, but for what is left to do of it.
func (t *trimmer) take(block int, in *api.Instr) {
	rest := t.rest(in)
	t.use(in, -1)
	t.use(&rest, 1)
	*in = rest
	if in.Op == 0 {
		t.left[block]--
	}
	t.count()
}

// end lets a block's end go past blocks that do nothing, and ask nothing, if it goes to one block alone.
func (t *trimmer) end(end *api.Term) {
	eachGoal(end, func(goal *int) {
		if past := t.past(*goal); past != *goal {
			*goal = past
			t.count()
		}
	})
	if end.Kind == api.TeIf && end.To == end.Else {
		asked := end.A
		*end = api.Term{Kind: api.TeGoto, To: end.To}
		readOf(&asked, func(local int) {
			t.uses[local]--
			t.unused(local)
		})
		t.count()
	}
}

// isIdle tells whether a block does nothing but go to another one.
func (t *trimmer) isIdle(block int) bool {
	end := &t.f.Blocks[block].Term
	return t.left[block] == 0 && end.Kind == api.TeGoto && end.To != block
}

// past tells which block is come to from one, past all that are idle. Those go there at once then, so that the way is not gone again.
func (t *trimmer) past(block int) int {
	if !t.isIdle(block) {
		return block
	}
	var path []int
	turns := map[int]int{}
	for t.isIdle(block) {
		if turn, was := turns[block]; was {
			block = slices.Min(path[turn:]) // they go round, so one of them goes to itself
			break
		}
		turns[block] = len(path)
		path = append(path, block)
		block = t.f.Blocks[block].Term.To
	}
	for _, k := range path {
		if end := &t.f.Blocks[k].Term; end.To != block {
			end.To = block
			t.count()
		}
	}
	return block
}
