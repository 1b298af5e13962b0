package low

import (
	"ferrule/api"
	"ferrule/layout"
	"ferrule/mir"
)

// most is how many registers, and how many words of a frame, a function may have.
const most = 1 << 16

// byNames tells where the function of each name stands; false: two have one name.
func byNames(l []api.LowFunc) (map[string]int, bool) {
	by := map[string]int{}
	for k := range l {
		by[l[k].Name] = k
	}
	return by, len(by) == len(l)
}

// hasForm tells whether a function is formed as it must be, but for its params and its blocks.
func hasForm(f *api.LowFunc) bool {
	return len(f.Blocks) > 0 && upTo(f.Regs, most) && upTo(f.Frame, most) &&
		upTo(f.Answers, api.MaxPass) && len(f.Params) <= api.MaxPass
}

// upTo tells whether a number is from 0 to another one.
func upTo(n, most int) bool { return n >= 0 && n <= most }

// checker looks through one function of several.
type checker struct {
	l  []api.LowFunc
	by map[string]int
	f  *api.LowFunc
}

func (c checker) blocks() bool {
	if !c.sets(c.f.Params...) {
		return false
	}
	for k := range c.f.Blocks {
		b := &c.f.Blocks[k]
		for at := range b.List {
			if !c.instr(&b.List[at]) {
				return false
			}
		}
		if !c.term(&b.Term) {
			return false
		}
	}
	return true
}

// instr looks at what an operation uses of an instruction: the rest of it may be anything.
func (c checker) instr(in *api.Low) bool {
	switch in.Op {
	case api.LoLi, api.LoRead:
		return c.sets(in.D)
	case api.LoMv:
		return c.sets(in.D) && c.reads(in.A)
	case api.LoBin:
		_, known := mir.Do(in.Text, 0, 0)
		return known && c.sets(in.D) && c.reads(in.A, in.B)
	case api.LoImm:
		return immediate(in.Text, in.N) && c.sets(in.D) && c.begins(in.A)
	case api.LoLw:
		return layout.Fits(in.N, false) && c.sets(in.D) && c.begins(in.A)
	case api.LoSw:
		return layout.Fits(in.N, false) && c.begins(in.A) && c.reads(in.B)
	case api.LoCall:
		return c.call(in)
	case api.LoPrint, api.LoFree:
		return c.reads(in.A)
	case api.LoAlloc:
		return upTo(in.N, api.MaxWords) && c.sets(in.D)
	}
	return false
}

// immediate tells whether an operation can have a number in itself, and that one.
func immediate(text string, n int) bool {
	switch text {
	case "add", "and", "or", "xor", "slt", "sltu":
		return layout.Fits(n, false)
	case "sll", "srl", "sra":
		return layout.Fits(n, true)
	}
	return false
}

func (c checker) call(in *api.Low) bool {
	at, is := c.by[in.Text]
	if !is || len(in.Args) != len(c.l[at].Params) || len(in.Dsts) != c.l[at].Answers {
		return false
	}
	return c.reads(in.Args...) && c.sets(in.Dsts...)
}

func (c checker) term(t *api.LowTerm) bool {
	switch t.Kind {
	case api.TeGoto:
		return c.block(t.To)
	case api.TeIf:
		_, known := named(t.Text)
		return known && c.reads(t.A, t.B) && c.block(t.To) && c.block(t.Else)
	case api.TeReturn:
		return len(t.Args) == c.f.Answers && c.reads(t.Args...)
	}
	return t.Kind == api.TePanic
}

// sets tells whether words can be set: only registers themselves can.
func (c checker) sets(list ...int) bool {
	for _, reg := range list {
		if reg < 0 || reg >= c.f.Regs {
			return false
		}
	}
	return true
}

// reads tells whether words can be read: the number 0 can, too.
func (c checker) reads(list ...int) bool {
	for _, reg := range list {
		if reg != api.RegZero && !c.sets(reg) {
			return false
		}
	}
	return true
}

// begins tells whether an address may begin here: it may with the frame, too.
func (c checker) begins(reg int) bool { return reg == api.RegFrame || c.reads(reg) }

func (c checker) block(n int) bool { return n >= 0 && n < len(c.f.Blocks) }
