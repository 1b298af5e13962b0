package regalloc_test

import (
	"fmt"
	"slices"
	"testing"

	"ferrule/api"
	"ferrule/live"
	"ferrule/regalloc"
)

const (
	zero  = api.RegZero
	frame = api.RegFrame
)

func li(d, n int) api.Low { return api.Low{Op: api.LoLi, D: d, N: n} }
func mv(d, a int) api.Low { return api.Low{Op: api.LoMv, D: d, A: a} }
func bin(d, a int, op string, b int) api.Low {
	return api.Low{Op: api.LoBin, D: d, A: a, Text: op, B: b}
}
func imm(d, a int, op string, n int) api.Low {
	return api.Low{Op: api.LoImm, D: d, A: a, Text: op, N: n}
}
func lw(d, a, bytes int) api.Low { return api.Low{Op: api.LoLw, D: d, A: a, N: bytes} }
func sw(a, bytes, b int) api.Low { return api.Low{Op: api.LoSw, A: a, N: bytes, B: b} }
func calls(dsts []int, name string, args ...int) api.Low {
	return api.Low{Op: api.LoCall, Text: name, Dsts: dsts, Args: args}
}
func show(a int) api.Low         { return api.Low{Op: api.LoPrint, A: a} }
func read(d int) api.Low         { return api.Low{Op: api.LoRead, D: d} }
func alloc(d, words int) api.Low { return api.Low{Op: api.LoAlloc, D: d, N: words} }
func free(a int) api.Low         { return api.Low{Op: api.LoFree, A: a} }

func jump(to int) api.LowTerm { return api.LowTerm{Kind: api.TeGoto, To: to} }
func branch(a int, text string, b, to, otherwise int) api.LowTerm {
	return api.LowTerm{Kind: api.TeIf, A: a, Text: text, B: b, To: to, Else: otherwise}
}
func answer(args ...int) api.LowTerm { return api.LowTerm{Kind: api.TeReturn, Args: args} }
func fail() api.LowTerm              { return api.LowTerm{Kind: api.TePanic} }

func block(end api.LowTerm, list ...api.Low) api.LowBlock {
	return api.LowBlock{List: list, Term: end}
}

// fn is a function with so many registers, params and answers.
func fn(regs int, params []int, answers int, blocks ...api.LowBlock) api.LowFunc {
	return api.LowFunc{Name: "f", Regs: regs, Params: params, Answers: answers, Frame: 4, Blocks: blocks}
}

// regs are the numbers of some registers.
func regs(list ...int) []int { return list }

// theKept and theLost are the chapter's own numbers.
func theKept() []int { return []int{8, 9, 18, 19, 20, 21, 22, 23, 24, 25, 26} }
func theLost() []int { return []int{28, 29, 30, 31} }

// told is what is told of a function.
type told struct {
	ranges []live.Range
	at     []int
	slots  int
}

// byWords holds what is told of a function that is taken against the chapter's words.
func byWords(t *testing.T, what string, f api.LowFunc) told {
	t.Helper()
	at, slots, e := regalloc.Assign(f)
	x := told{live.Ranges(f), at, slots}
	if e != api.OK || len(at) != f.Regs || len(x.ranges) != f.Regs {
		t.Fatalf("%s: error %d, %d places and %d ranges of %d registers", what, int(e), len(at), len(x.ranges), f.Regs)
	}
	for _, wrong := range []string{x.wrongPlaces(), x.wrongTogether(), x.wrongSlots(), x.wrongAnswers(f)} {
		if wrong != "" {
			t.Fatalf("%s: %s: %.3000s", what, wrong, fmt.Sprint(x, f))
		}
	}
	return x
}

// refused asks for ErrForm, and that nothing else is told.
func refused(t *testing.T, what string, f api.LowFunc) {
	t.Helper()
	if at, slots, e := regalloc.Assign(f); e != api.ErrForm || len(at) != 0 || slots != 0 {
		t.Fatalf("%s: %v, %d, error %d", what, at, slots, int(e))
	}
}

// wrongPlaces is P21.2: 0 just of those that nothing uses, else a register of the machine or a slot, and each slot once.
func (x told) wrongPlaces() string {
	in := make([]int, max(0, x.slots))
	for reg, at := range x.at {
		switch isUsed := x.ranges[reg].From != -1; {
		case isUsed == (at == 0):
			return fmt.Sprintf("the register %d lies at %d, and its range is %v", reg, at, x.ranges[reg])
		case at > 0 && !slices.Contains(theKept(), at) && !slices.Contains(theLost(), at):
			return fmt.Sprintf("the register %d lies at %d", reg, at)
		case at < 0 && -1-at >= x.slots:
			return fmt.Sprintf("the register %d lies at %d, of %d slots", reg, at, x.slots)
		case at < 0:
			in[-1-at]++
		}
	}
	for slot, n := range in {
		if n != 1 {
			return fmt.Sprintf("%d registers lie in the slot %d", n, slot)
		}
	}
	return ""
}

// wrongTogether is P21.3: none that meet in one place, none over a call in one that calls lose.
func (x told) wrongTogether() string {
	in := map[int][]int{}
	for reg, at := range x.at {
		if x.ranges[reg].Calls && slices.Contains(theLost(), at) {
			return fmt.Sprintf("the register %d lies at %d over a call: %v", reg, at, x.ranges[reg])
		}
		if at == 0 {
			continue
		}
		for _, other := range in[at] {
			if live.Meet(x.ranges[reg], x.ranges[other]) {
				return fmt.Sprintf("the registers %d and %d lie at %d: %v, %v", other, reg, at, x.ranges[other], x.ranges[reg])
			}
		}
		in[at] = append(in[at], reg)
	}
	return ""
}

// used are the ranges of the registers that something uses.
func (x told) used() []live.Range {
	return slices.DeleteFunc(slices.Clone(x.ranges), func(r live.Range) bool { return r.From == -1 })
}

// hasCalls counts the ranges that have Calls.
func (x told) hasCalls() (n int) {
	for _, r := range x.used() {
		if r.Calls {
			n++
		}
	}
	return n
}

// most is how many ranges lie at one position, at most.
func (x told) most() int {
	last := 0
	for _, r := range x.used() {
		last = max(last, r.To)
	}
	if last < 3000 && len(x.ranges) < 3000 {
		return x.plainMost(last)
	}
	more := make([]int, last+2) // how many more lie at a position than at the one ahead of it
	for _, r := range x.used() {
		more[r.From]++
		more[r.To+1]--
	}
	most, now := 0, 0
	for _, n := range more {
		now += n
		most = max(most, now)
	}
	return most
}

// plainMost counts one by one.
func (x told) plainMost(last int) (most int) {
	for at := range last + 1 {
		n := 0
		for _, r := range x.ranges {
			if r.From != -1 && r.From <= at && r.To >= at {
				n++
			}
		}
		most = max(most, n)
	}
	return most
}

// allMeet tells whether all ranges meet one another.
func (x told) allMeet() bool {
	list := x.used()
	for k, a := range list {
		for _, b := range list[:k] {
			if !live.Meet(a, b) {
				return false
			}
		}
	}
	return true
}

// mostInRegisters is how many of ranges that all meet can lie in registers.
func mostInRegisters(with, without int) int {
	with = min(with, len(theKept()))
	return with + min(without, len(theKept())+len(theLost())-with)
}

// wrongSlots is P21.4: whether slots are used where none may be, or too many are.
func (x told) wrongSlots() string {
	most, with, all := x.most(), x.hasCalls(), len(x.used())
	switch {
	case x.slots > 0 && most <= 11:
		return fmt.Sprintf("%d slots, where at most %d ranges lie at one position", x.slots, most)
	case x.slots > 0 && most <= 15 && with == 0:
		return fmt.Sprintf("%d slots, where at most %d ranges lie at one position, without calls", x.slots, most)
	case all < 3000 && x.allMeet() && all-x.slots != mostInRegisters(with, all-with):
		return fmt.Sprintf("%d slots of %d ranges that all meet, %d of which have Calls", x.slots, all, with)
	}
	return ""
}

// wrongAnswers is of the promises of the whole (W5): what a call answers comes where it must, so no two registers that it answers in are one place; nor two that are passed.
func (x told) wrongAnswers(f api.LowFunc) string {
	lists := [][]int{f.Params}
	for _, b := range f.Blocks {
		for _, in := range b.List {
			if in.Op == api.LoCall {
				lists = append(lists, in.Dsts)
			}
		}
	}
	for _, list := range lists {
		in := map[int]int{}
		for _, reg := range list {
			if other, is := in[x.at[reg]]; is && other != reg {
				return fmt.Sprintf("%d and %d, that are set at one time, lie at %d", other, reg, x.at[reg])
			}
			in[x.at[reg]] = reg
		}
	}
	return ""
}
