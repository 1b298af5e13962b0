package frame

import (
	"ferrule/api"
	"ferrule/shuffle"
)

func (w *writer) li(in *api.Low) {
	if int32(in.N) == 0 {
		w.move(w.place(in.D), zero)
		return
	}
	w.into(in.D, func(rd int) { w.number(rd, in.N) })
}

func (w *writer) mv(in *api.Low) { w.move(w.place(in.D), w.place(in.A)) }

func (w *writer) bin(in *api.Low) {
	a, b := w.word(in.A, first), w.word(in.B, second)
	w.into(in.D, func(rd int) {
		w.insn(api.Insn{Op: in.Text, Rd: rd, Rs1: a, Rs2: b})
	})
}

func (w *writer) imm(in *api.Low) {
	a := w.word(in.A, first)
	w.into(in.D, func(rd int) {
		w.insn(api.Insn{Op: inside(in.Text), Rd: rd, Rs1: a, Imm: in.N})
	})
}

func (w *writer) lw(in *api.Low) {
	base := w.word(in.A, first)
	w.into(in.D, func(rd int) { w.load(rd, base, in.N) })
}

func (w *writer) sw(in *api.Low) {
	base, b := w.word(in.A, first), w.word(in.B, second)
	w.store(base, in.N, b)
}

// call passes words, and takes those that come back: registers that are needed over it lie where calls keep them.
func (w *writer) call(in *api.Low) {
	w.pass(in.Args)
	w.jump(back, labelOf(w.names[in.Text]))
	var list []shuffle.Move
	for k, reg := range in.Dsts {
		list = append(list, shuffle.Move{To: w.place(reg), From: passed + k})
	}
	w.moveAll(list)
}

// pass brings words to where they are passed.
func (w *writer) pass(regs []int) {
	var list []shuffle.Move
	for k, reg := range regs {
		list = append(list, shuffle.Move{To: passed + k, From: w.place(reg)})
	}
	w.moveAll(list)
}

func (w *writer) print(in *api.Low) {
	w.pass([]int{in.A})
	if in.N == 1 {
		w.ecall(callPrintFromZero)
	} else {
		w.ecall(callPrint)
	}
}

func (w *writer) read(in *api.Low) {
	w.ecall(callRead)
	w.move(w.place(in.D), passed)
}

func (w *writer) alloc(in *api.Low) {
	w.number(passed, in.N)
	w.ecall(callAlloc)
	w.move(w.place(in.D), passed)
}

func (w *writer) free(in *api.Low) {
	w.pass([]int{in.A})
	w.ecall(callFree)
}
