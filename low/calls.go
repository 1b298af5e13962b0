package low

import "ferrule/api"

// call is a function that is under way: its registers, its frame, and how far it has come.
type call struct {
	*api.LowFunc
	regs  []int32
	frame []int32
	base  uint32 // the address of the frame's first word
	block int
	next  int // the instruction of that block that comes next
}

// enter begins a call, with the words that it is passed.
func (r *run) enter(f *api.LowFunc, args []int32) {
	if !f.Quiet && r.loud >= api.MaxDepth || len(r.calls) >= mostCalls {
		end(api.OutDepth, 0)
	}
	r.now = &call{LowFunc: f, regs: make([]int32, f.Regs), frame: make([]int32, f.Frame), base: r.room()}
	for k, reg := range f.Params {
		r.now.set(reg, args[k])
	}
	r.calls = append(r.calls, r.now)
	if !f.Quiet {
		r.loud++
	}
}

// leave ends the last call, and hands what it answers to the one that called it, if it is not main.
func (r *run) leave(answers []int32) {
	if !r.now.Quiet {
		r.loud--
	}
	r.calls = r.calls[:len(r.calls)-1]
	if len(r.calls) == 0 {
		return
	}
	r.now = r.calls[len(r.calls)-1]
	called := &r.now.Blocks[r.now.block].List[r.now.next-1]
	for k, reg := range called.Dsts {
		r.now.set(reg, answers[k])
	}
}

func (c *call) goTo(block int) { c.block, c.next = block, 0 }

// word tells what is read of a register, or of what stands for one.
func (c *call) word(reg int) int32 {
	switch reg {
	case api.RegZero:
		return 0
	case api.RegFrame:
		return int32(c.base)
	}
	return c.regs[reg]
}

func (c *call) all(list []int) []int32 {
	out := make([]int32, len(list))
	for k, reg := range list {
		out[k] = c.word(reg)
	}
	return out
}

func (c *call) set(reg int, v int32) { c.regs[reg] = v }

// far tells the address that lies so many bytes behind what a register says.
func (c *call) far(reg, bytes int) uint32 { return uint32(c.word(reg)) + uint32(bytes) }
