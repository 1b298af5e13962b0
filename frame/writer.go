package frame

import (
	"strconv"

	"ferrule/api"
	"ferrule/shuffle"
)

// writer writes one function of a program.
type writer struct {
	*program
	shape
	f     *api.LowFunc
	label string
	by    map[int]func(in *api.Low) // how each operation is written
	calls bool                      // it calls something
	ended bool                      // how a call of it ends is written
}

func newWriter(p *program, k int, s shape) *writer {
	w := &writer{program: p, shape: s, f: &p.l[k], label: labelOf(k)}
	w.by = w.byKinds()
	eachCall(w.f, func(string) { w.calls = true })
	return w
}

// byKinds tells how each operation is written.
func (w *writer) byKinds() map[int]func(in *api.Low) {
	return map[int]func(in *api.Low){
		api.LoLi:    w.li,
		api.LoMv:    w.mv,
		api.LoBin:   w.bin,
		api.LoImm:   w.imm,
		api.LoLw:    w.lw,
		api.LoSw:    w.sw,
		api.LoCall:  w.call,
		api.LoPrint: w.print,
		api.LoRead:  w.read,
		api.LoAlloc: w.alloc,
		api.LoFree:  w.free,
	}
}

func (w *writer) function() {
	w.here(w.label)
	w.enter()
	for k := range w.f.Blocks {
		b := &w.f.Blocks[k]
		w.here(w.block(k))
		for at := range b.List {
			w.by[b.List[at].Op](&b.List[at])
		}
		w.term(&b.Term, k+1)
	}
}

// block is the label of one of the function's.
func (w *writer) block(k int) string { return w.label + "." + strconv.Itoa(k) }

// place is where what is read of a register lies: a register of the machine, or, below 0, a slot.
func (w *writer) place(reg int) int {
	switch reg {
	case api.RegZero:
		return zero
	case api.RegFrame:
		return stack
	}
	return w.at[reg]
}

// word is a register of the machine that has what is read of a register: where it lies in a slot, that is brought into one first.
func (w *writer) word(reg, scratch int) int {
	place := w.place(reg)
	if place >= 0 {
		return place
	}
	w.load(scratch, stack, w.slot(place))
	return scratch
}

// into brings into a register the word that code brings into one of the machine.
func (w *writer) into(reg int, code func(rd int)) {
	place := w.at[reg]
	if place > 0 {
		code(place)
		return
	}
	code(first)
	w.store(stack, w.slot(place), first)
}

// move brings a place's word into another one.
func (w *writer) move(to, from int) {
	switch {
	case to == from:
	case to < 0 && from < 0:
		w.load(first, stack, w.slot(from))
		w.store(stack, w.slot(to), first)
	case to < 0:
		w.store(stack, w.slot(to), from)
	case from < 0:
		w.load(to, stack, w.slot(from))
	default:
		w.more(to, from, 0)
	}
}

// moveAll does moves at one time. Of those to one place the last one counts.
func (w *writer) moveAll(list []shuffle.Move) {
	var each []shuffle.Move
	last := map[int]int{}
	for k, m := range list {
		last[m.To] = k
	}
	for k, m := range list {
		if last[m.To] == k {
			each = append(each, m)
		}
	}
	line, _ := shuffle.Line(each, spare)
	for _, m := range line {
		w.move(m.To, m.From)
	}
}
