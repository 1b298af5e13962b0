package frame

import (
	"ferrule/api"
	"ferrule/shuffle"
)

// enter begins a call: it is counted, then its part of the stack is its own.
func (w *writer) enter() {
	w.count()
	w.more(stack, stack, -w.size)
	if w.calls {
		w.store(stack, w.backAt, back)
	}
	for k, reg := range w.kept {
		w.store(stack, w.savedAt+wordBytes*k, reg)
	}
	w.takeFirstWords()
}

// counter counts the calls under way of functions like this one.
func (w *writer) counter() int {
	if w.f.Quiet {
		return quiet
	}
	return loud
}

// count counts a call, or ends the run where it would be one too many. While a function that is Quiet calls none that is not, only its own calls can be more than those that are not Quiet may be.
func (w *writer) count() {
	if !w.f.Quiet {
		w.number(first, api.MaxDepth)
		w.branch("bgeu", loud, first, deepLabel)
	}
	if w.f.Quiet || w.mixed {
		w.insn(api.Insn{Op: "add", Rd: first, Rs1: loud, Rs2: quiet})
		w.number(second, mostCalls)
		w.branch("bgeu", first, second, deepLabel)
	}
	w.more(w.counter(), w.counter(), 1)
}

// takeFirstWords brings the first words of registers, and of the frame, to where they lie: what was passed, or 0.
func (w *writer) takeFirstWords() {
	n := neededOf(w.f)
	source := map[int]int{}
	for k, reg := range w.f.Params {
		source[reg] = passed + k
	}
	var list []shuffle.Move
	for _, reg := range n.regs {
		list = append(list, shuffle.Move{To: w.place(reg), From: source[reg]})
	}
	w.moveAll(list)
	for _, word := range n.words {
		w.store(stack, wordBytes*word, zero)
	}
}

// term writes a block's end; next: the block that is written behind it.
func (w *writer) term(t *api.LowTerm, next int) {
	switch t.Kind {
	case api.TeGoto:
		w.goTo(t.To, next)
	case api.TeIf:
		w.fork(t, next)
	case api.TeReturn:
		w.leave(t)
	case api.TePanic:
		w.jump(zero, panicLabel)
	}
}

func (w *writer) goTo(to, next int) {
	if to != next {
		w.jump(zero, w.block(to))
	}
}

func (w *writer) fork(t *api.LowTerm, next int) {
	if t.To == t.Else {
		w.goTo(t.To, next)
		return
	}
	a, b := w.word(t.A, first), w.word(t.B, second)
	asks := w.asks[t.Text]
	if t.To == next {
		w.branch(asks.fails, a, b, w.block(t.Else))
		return
	}
	w.branch(asks.holds, a, b, w.block(t.To))
	w.goTo(t.Else, next)
}

// leave ends a call. What all ends of calls have in common is written once.
func (w *writer) leave(t *api.LowTerm) {
	w.pass(t.Args)
	end := w.label + ".end"
	if w.ended {
		w.jump(zero, end)
		return
	}
	w.ended = true
	w.here(end)
	for k, reg := range w.kept {
		w.load(reg, stack, w.savedAt+wordBytes*k)
	}
	if w.calls {
		w.load(back, stack, w.backAt)
	}
	w.more(stack, stack, w.size)
	w.more(w.counter(), w.counter(), -1)
	w.insn(api.Insn{Op: "jalr", Rs1: back})
}
