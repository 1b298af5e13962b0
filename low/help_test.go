package low_test

import (
	"slices"
	"testing"

	"ferrule/api"
	"ferrule/low"
)

const (
	zero  = api.RegZero
	frame = api.RegFrame
)

func li(d, n int) api.Low { return api.Low{Op: api.LoLi, D: d, N: n} }
func mv(d, a int) api.Low { return api.Low{Op: api.LoMv, D: d, A: a} }
func bin(d, a int, op string, b int) api.Low {
	return api.Low{Op: api.LoBin, D: d, A: a, Text: op, B: b}
}
func imm(d, a int, op string, n int) api.Low {
	return api.Low{Op: api.LoImm, D: d, A: a, Text: op, N: n}
}
func lw(d, a, bytes int) api.Low { return api.Low{Op: api.LoLw, D: d, A: a, N: bytes} }
func sw(a, bytes, b int) api.Low { return api.Low{Op: api.LoSw, A: a, N: bytes, B: b} }
func calls(dsts []int, name string, args ...int) api.Low {
	return api.Low{Op: api.LoCall, Text: name, Dsts: dsts, Args: args}
}
func show(a int) api.Low         { return api.Low{Op: api.LoPrint, A: a} }
func showFrom0(a int) api.Low    { return api.Low{Op: api.LoPrint, A: a, N: 1} }
func read(d int) api.Low         { return api.Low{Op: api.LoRead, D: d} }
func alloc(d, words int) api.Low { return api.Low{Op: api.LoAlloc, D: d, N: words} }
func free(a int) api.Low         { return api.Low{Op: api.LoFree, A: a} }

func jump(to int) api.LowTerm { return api.LowTerm{Kind: api.TeGoto, To: to} }
func branch(a int, text string, b, to, otherwise int) api.LowTerm {
	return api.LowTerm{Kind: api.TeIf, A: a, Text: text, B: b, To: to, Else: otherwise}
}
func answer(args ...int) api.LowTerm { return api.LowTerm{Kind: api.TeReturn, Args: args} }
func fail() api.LowTerm              { return api.LowTerm{Kind: api.TePanic} }

func block(end api.LowTerm, list ...api.Low) api.LowBlock {
	return api.LowBlock{List: list, Term: end}
}

// fn is a function with so many registers and answers, and so many words of a frame.
func fn(name string, regs int, params []int, answers, frame int, blocks ...api.LowBlock) api.LowFunc {
	return api.LowFunc{Name: name, Regs: regs, Params: params, Answers: answers, Frame: frame, Blocks: blocks}
}

func quiet(f api.LowFunc) api.LowFunc {
	f.Quiet = true
	return f
}

// starts is a main of one block.
func starts(regs, frame int, list ...api.Low) api.LowFunc {
	return fn("main", regs, nil, 0, frame, block(answer(), list...))
}

// plenty is more fuel than a test's functions need.
const plenty = 1 << 20

func outcome(kind, code int, print ...int) api.Outcome {
	return api.Outcome{Kind: kind, Code: code, Print: print}
}

func exit(print ...int) api.Outcome    { return outcome(api.OutExit, 0, print...) }
func failed(print ...int) api.Outcome  { return outcome(api.OutExit, 101, print...) }
func trapped(print ...int) api.Outcome { return outcome(api.OutTrap, 0, print...) }

func alike(a, b api.Outcome) bool {
	return a.Kind == b.Kind && a.Code == b.Code && slices.Equal(a.Print, b.Print)
}

// comes runs functions, and holds what they come to against what they must.
func comes(t *testing.T, what string, want api.Outcome, l ...api.LowFunc) {
	t.Helper()
	comesWith(t, what, want, nil, l...)
}

func comesWith(t *testing.T, what string, want api.Outcome, input []int, l ...api.LowFunc) {
	t.Helper()
	if e := low.Check(l); e != api.OK {
		t.Errorf("%s: Check tells %v", what, e)
	}
	if got, _ := low.Run(l, input, plenty); !alike(got, want) {
		t.Errorf("%s: %+v, not %+v", what, got, want)
	}
}
