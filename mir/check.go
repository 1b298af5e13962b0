package mir

import "ferrule/api"

const (
	mostWords = 4 * api.MaxWords // of a local
	mostOn    = 1 << 16          // words that a step goes on, or goes on by its index
)

// byNames tells where the function of each name stands; false: two have one name.
func byNames(l []api.Mir) (map[string]int, bool) {
	by := map[string]int{}
	for k := range l {
		by[l[k].Name] = k
	}
	return by, len(by) == len(l)
}

// hasForm tells whether a function is formed as it must be, but for its blocks.
func hasForm(f *api.Mir) bool {
	if len(f.Blocks) == 0 || !upTo(f.Params, len(f.Locals)) || !upTo(f.Answers, api.MaxPass) {
		return false
	}
	for _, words := range f.Locals {
		if !upTo(words, mostWords) {
			return false
		}
	}
	return passed(f) <= api.MaxPass
}

// passed tells how many words a function's params have.
func passed(f *api.Mir) int {
	n := 0
	for _, words := range f.Locals[:f.Params] {
		n += words
	}
	return n
}

// upTo tells whether a number is from 0 to another one.
func upTo(n, most int) bool { return n >= 0 && n <= most }

// checker looks through the blocks of one function of several.
type checker struct {
	l  []api.Mir
	by map[string]int
	f  *api.Mir
}

func (c checker) blocks() bool {
	for k := range c.f.Blocks {
		b := &c.f.Blocks[k]
		for at := range b.List {
			if !c.instr(&b.List[at]) {
				return false
			}
		}
		if !c.term(&b.Term) {
			return false
		}
	}
	return true
}

// instr looks at what an operation uses of an instruction: the rest of it may be anything.
func (c checker) instr(in *api.Instr) bool {
	switch in.Op {
	case api.OpSet:
		return c.scalar(in.Dst) && c.operands(in.A)
	case api.OpBin:
		_, known := Do(in.Text, 0, 0)
		return known && c.scalar(in.Dst) && c.operands(in.A, in.B)
	case api.OpLoad, api.OpAddr:
		return c.scalar(in.Dst) && c.place(&in.P)
	case api.OpStore:
		return c.operands(in.A) && c.place(&in.P)
	case api.OpCopy:
		return upTo(in.N, api.MaxWords) && c.place(&in.P) && c.place(&in.Q)
	case api.OpAlloc:
		return upTo(in.N, api.MaxWords) && c.scalar(in.Dst)
	case api.OpFree, api.OpPrint:
		return c.operands(in.A)
	case api.OpDrop:
		return c.place(&in.P)
	case api.OpGive, api.OpTake, api.OpClear: // values of any words are held
		return c.local(in.Dst)
	case api.OpRead:
		return c.scalar(in.Dst)
	case api.OpCall:
		return c.call(in)
	}
	return false
}

func (c checker) call(in *api.Instr) bool {
	at, is := c.by[in.Text]
	if !is || len(in.Args) != passed(&c.l[at]) || len(in.Dsts) != c.l[at].Answers || !c.operands(in.Args...) {
		return false
	}
	for _, dst := range in.Dsts {
		if !c.scalar(dst) {
			return false
		}
	}
	return true
}

func (c checker) term(t *api.Term) bool {
	switch t.Kind {
	case api.TeGoto:
		return c.block(t.To)
	case api.TeIf:
		return c.operands(t.A) && c.block(t.To) && c.block(t.Else)
	case api.TeReturn:
		return len(t.Args) == c.f.Answers && c.operands(t.Args...)
	}
	return t.Kind == api.TePanic
}

func (c checker) place(p *api.Place) bool {
	if !c.local(p.Local) {
		return false
	}
	for _, s := range p.Steps {
		if !c.step(s) {
			return false
		}
	}
	return true
}

func (c checker) step(s api.Step) bool {
	switch s.Kind {
	case api.StAdd:
		return upTo(s.N, mostOn)
	case api.StIndex:
		return c.scalar(s.N) && upTo(s.Size, mostOn)
	}
	return s.Kind == api.StHeld
}

func (c checker) operands(list ...api.Operand) bool {
	for _, o := range list {
		if !o.Const && !c.scalar(o.N) {
			return false
		}
	}
	return true
}

func (c checker) local(n int) bool { return n >= 0 && n < len(c.f.Locals) }

func (c checker) scalar(n int) bool { return c.local(n) && c.f.Locals[n] == 1 }

func (c checker) block(n int) bool { return n >= 0 && n < len(c.f.Blocks) }
