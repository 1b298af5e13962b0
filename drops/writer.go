package drops

import (
	"slices"

	"ferrule/api"
)

// mostOn is how many words a step goes on at most.
const mostOn = 1 << 16

// writer writes a function.
type writer struct {
	*elaborator
	f     api.Mir
	block int  // what is written comes to its end
	marks bool // no address stands in a Box while what it points to is let go
	// Scalars for a value's address, for a word of it, and for what is asked of that. 0: there is none yet, as a function that lets something go has a local ahead of them.
	base, word, test int
	turns            []int // scalars that count the turns of loops within one another
	loops            int   // how many of these are being written
}

func (w *writer) add(list ...api.Instr) {
	b := &w.f.Blocks[w.block]
	b.List = append(b.List, list...)
}

func (w *writer) end(t api.Term) { w.f.Blocks[w.block].Term = t }

// goOn ends the block by going to another one, which is written then.
func (w *writer) goOn(to int) {
	w.end(api.Term{Kind: api.TeGoto, To: to})
	w.block = to
}

// branch ends the block by going to one where a scalar is not 0, and to another one where it is.
func (w *writer) branch(scalar, to, otherwise int) {
	w.end(api.Term{Kind: api.TeIf, A: api.Operand{N: scalar}, To: to, Else: otherwise})
}

// newBlock tells the number of one more.
func (w *writer) newBlock() int {
	w.f.Blocks = append(w.f.Blocks, api.Block{})
	return len(w.f.Blocks) - 1
}

// newScalar tells the number of one more.
func (w *writer) newScalar() int {
	w.f.Locals = append(w.f.Locals, 1)
	return len(w.f.Locals) - 1
}

// scratch tells one of the scalars that are used again and again, and makes it where it is used first.
func (w *writer) scratch(which *int) int {
	if *which == 0 {
		*which = w.newScalar()
	}
	return *which
}

// load loads the word at a place, and tells which scalar it is then.
func (w *writer) load(p api.Place) int {
	w.add(api.Instr{Op: api.OpLoad, Dst: w.scratch(&w.word), P: then(p)})
	return w.word
}

// wordAt tells the word at a place: a scalar is one itself.
func (w *writer) wordAt(p api.Place) api.Operand {
	if len(p.Steps) == 0 && w.f.Locals[p.Local] == 1 {
		return api.Operand{N: p.Local}
	}
	return api.Operand{N: w.load(p)}
}

// address tells which scalar has the address of a place.
func (w *writer) address(p api.Place) int {
	w.add(api.Instr{Op: api.OpAddr, Dst: w.scratch(&w.base), P: then(p)})
	return w.base
}

// ask asks something of a scalar and a number, and tells which scalar is 0 then, if it is not so.
func (w *writer) ask(scalar int, op string, n int) int {
	w.add(api.Instr{Op: api.OpBin, Dst: w.scratch(&w.test), A: api.Operand{N: scalar}, Text: op, B: number(n)})
	return w.test
}

func (w *writer) set(scalar, n int) {
	w.add(api.Instr{Op: api.OpSet, Dst: scalar, A: number(n)})
}

func number(n int) api.Operand { return api.Operand{Const: true, N: n} }

// on is the place so many words on from another one, in new memory.
func on(p api.Place, words int) api.Place {
	p = then(p)
	for ; words > 0; words -= mostOn {
		p.Steps = append(p.Steps, api.Step{Kind: api.StAdd, N: min(words, mostOn)})
	}
	return p
}

// then is a place with steps more, in new memory.
func then(p api.Place, steps ...api.Step) api.Place {
	p.Steps = append(slices.Clone(p.Steps), steps...)
	return p
}
