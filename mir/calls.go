package mir

import "ferrule/api"

// function is one that is run, and how its locals lie, one behind the other.
type function struct {
	*api.Mir
	ahead []int // of each local: how many words those ahead of it have
	words int   // of all locals
	gap   int   // how many words of addresses behind each are nobody's
}

func newFunction(f *api.Mir) function {
	out := function{Mir: f, ahead: make([]int, len(f.Locals)), gap: gapOf(len(f.Locals))}
	for k, words := range f.Locals {
		out.ahead[k] = out.words
		out.words += words
	}
	return out
}

// call is a function that is under way: its locals' words, and how far it has come.
type call struct {
	*function
	base  uint32  // the address of its first local
	kept  []int32 // the words of its locals
	held  []bool  // of each local, whether it holds a value; there is no list before the first one does
	block int
	next  int // the instruction of that block that comes next
}

// enter begins a call, with the words that it is passed. One whose locals find no addresses any more is too deep, too.
func (r *run) enter(f *function, args []int32) {
	if !f.Quiet && r.loud >= api.MaxDepth || len(r.calls) >= mostCalls {
		end(api.OutDepth, 0)
	}
	base, fits := r.room(f)
	if !fits {
		end(api.OutDepth, 0)
	}
	r.now = &call{function: f, base: base, kept: make([]int32, f.words)}
	copy(r.now.kept, args)
	r.calls = append(r.calls, r.now)
	if !f.Quiet {
		r.loud++
	}
}

// leave ends the last call, and hands what it answers to the one that called it, if it is not main.
func (r *run) leave(answers []int32) {
	if !r.now.Quiet {
		r.loud--
	}
	r.calls = r.calls[:len(r.calls)-1]
	if len(r.calls) == 0 {
		return
	}
	r.now = r.calls[len(r.calls)-1]
	called := &r.now.Blocks[r.now.block].List[r.now.next-1]
	for k, dst := range called.Dsts {
		r.now.set(dst, answers[k])
	}
}

func (c *call) goTo(block int) { c.block, c.next = block, 0 }

// word tells an operand's.
func (c *call) word(o api.Operand) int32 {
	if o.Const {
		return int32(o.N)
	}
	return c.kept[c.ahead[o.N]]
}

// both tells the words of two operands; one that stands there twice is asked once.
func (c *call) both(a, b api.Operand) (int32, int32) {
	v := c.word(a)
	if a == b {
		return v, v
	}
	return v, c.word(b)
}

func (c *call) all(list []api.Operand) []int32 {
	out := make([]int32, len(list))
	for k, o := range list {
		out[k] = c.word(o)
	}
	return out
}

func (c *call) set(scalar int, v int32) { c.kept[c.ahead[scalar]] = v }

func (c *call) give(local int) {
	if c.held == nil {
		c.held = make([]bool, len(c.Locals))
	}
	c.held[local] = true
}

func (c *call) take(local int) {
	if c.held != nil {
		c.held[local] = false
	}
}

func (c *call) holds(local int) bool { return c.held != nil && c.held[local] }
