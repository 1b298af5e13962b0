package drops

import (
	"slices"

	"ferrule/api"
)

// mostWork is how much may be done to let a value go right where it stands.
const mostWork = 8

// function tells a function in which nothing asks any more what locals hold.
func (e *elaborator) function(f *api.Mir) api.Mir {
	w := &writer{elaborator: e, f: *f}
	w.f.Locals = slices.Clone(f.Locals)
	w.f.Blocks = make([]api.Block, len(f.Blocks))
	r := rewriter{w, atClears(f), map[int]int{}}
	r.keep(f)
	for k := range f.Blocks {
		r.rewrite(k, &f.Blocks[k])
	}
	return w.f
}

// rewriter writes a function that there is.
type rewriter struct {
	*writer
	states map[spot]int // what the local of each OpClear holds there
	flags  map[int]int  // of each local of which that is kept at run time, the scalar that is 1 where it holds a value, and 0 where not
}

// keep makes a flag for each local of which no more is known, at an OpClear that lets something go, than that it may hold a value.
func (r rewriter) keep(f *api.Mir) {
	eachInstr(f, func(at spot, in *api.Instr) {
		if in.Op != api.OpClear || r.states[at] != sometimes || !r.owns(r.of(&in.Type)) {
			return
		}
		if _, had := r.flags[in.Dst]; !had {
			r.flags[in.Dst] = r.newScalar()
		}
	})
}

func (r rewriter) rewrite(k int, b *api.Block) {
	r.block = k
	if b.List != nil {
		r.f.Blocks[k].List = make([]api.Instr, 0, len(b.List))
	}
	for at := range b.List {
		r.instr(spot{k, at}, &b.List[at])
	}
	r.end(copyOfTerm(b.Term))
}

func (r rewriter) instr(at spot, in *api.Instr) {
	switch in.Op {
	case api.OpDrop:
		r.letGo(r.of(&in.Type), in.P)
	case api.OpGive:
		r.tell(in.Dst, 1)
	case api.OpTake:
		r.tell(in.Dst, 0)
	case api.OpClear:
		r.clear(r.states[at], in)
	default:
		r.add(copyOf(in))
	}
}

// tell says at run time whether a local holds a value, if that is kept.
func (r rewriter) tell(local, holds int) {
	if flag, is := r.flags[local]; is {
		r.set(flag, holds)
	}
}

// clear lets go what a local holds, by what is known of it.
func (r rewriter) clear(state int, in *api.Instr) {
	x, p := r.of(&in.Type), api.Place{Local: in.Dst}
	switch {
	case state == always:
		r.letGo(x, p)
		r.tell(in.Dst, 0)
	case state == sometimes && !r.owns(x):
		r.tell(in.Dst, 0)
	case state == sometimes:
		held, behind := r.newBlock(), r.newBlock()
		r.branch(r.flags[in.Dst], held, behind)
		r.block = held
		r.letGo(x, p)
		r.tell(in.Dst, 0)
		r.goOn(behind)
	}
}

// letGo lets the value go that stands at a place: right there, if not much is to be done, else by a function.
func (w *writer) letGo(x *kind, p api.Place) {
	reaches := slices.ContainsFunc(p.Steps, func(s api.Step) bool { return s.Kind == api.StHeld })
	switch {
	case !w.owns(x) && reaches:
		// A value that owns nothing may stand anywhere, but not all words on the way there may be used.
		w.add(api.Instr{Op: api.OpCopy, P: then(p), Q: then(p)})
	case !w.owns(x):
	case x.work > mostWork:
		w.dropHeld(x, api.Operand{N: w.address(p)})
	case reaches && !w.isLone(x):
		// What is let go first may have words that the way to the others goes through.
		w.drop(x, api.Place{Local: w.address(p), Steps: []api.Step{{Kind: api.StHeld}}})
	default:
		w.drop(x, p)
	}
}

// copyOf is an instruction in new memory.
func copyOf(in *api.Instr) api.Instr {
	out := *in
	out.P, out.Q = then(in.P), then(in.Q)
	out.Type = copyOfType(in.Type)
	out.Args, out.Dsts = slices.Clone(in.Args), slices.Clone(in.Dsts)
	return out
}

func copyOfType(t api.Type) api.Type {
	t.Elem = slices.Clone(t.Elem)
	for k := range t.Elem {
		t.Elem[k] = copyOfType(t.Elem[k])
	}
	return t
}

func copyOfTerm(t api.Term) api.Term {
	t.Args = slices.Clone(t.Args)
	return t
}
