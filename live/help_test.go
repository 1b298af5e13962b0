package live_test

import (
	"fmt"
	"slices"
	"testing"

	"ferrule/api"
	"ferrule/live"
)

const (
	zero  = api.RegZero
	frame = api.RegFrame
)

func li(d, n int) api.Low { return api.Low{Op: api.LoLi, D: d, N: n} }
func mv(d, a int) api.Low { return api.Low{Op: api.LoMv, D: d, A: a} }
func bin(d, a int, op string, b int) api.Low {
	return api.Low{Op: api.LoBin, D: d, A: a, Text: op, B: b}
}
func imm(d, a int, op string, n int) api.Low {
	return api.Low{Op: api.LoImm, D: d, A: a, Text: op, N: n}
}
func lw(d, a, bytes int) api.Low { return api.Low{Op: api.LoLw, D: d, A: a, N: bytes} }
func sw(a, bytes, b int) api.Low { return api.Low{Op: api.LoSw, A: a, N: bytes, B: b} }
func calls(dsts []int, name string, args ...int) api.Low {
	return api.Low{Op: api.LoCall, Text: name, Dsts: dsts, Args: args}
}
func show(a int) api.Low         { return api.Low{Op: api.LoPrint, A: a} }
func read(d int) api.Low         { return api.Low{Op: api.LoRead, D: d} }
func alloc(d, words int) api.Low { return api.Low{Op: api.LoAlloc, D: d, N: words} }
func free(a int) api.Low         { return api.Low{Op: api.LoFree, A: a} }

func jump(to int) api.LowTerm { return api.LowTerm{Kind: api.TeGoto, To: to} }
func branch(a int, text string, b, to, otherwise int) api.LowTerm {
	return api.LowTerm{Kind: api.TeIf, A: a, Text: text, B: b, To: to, Else: otherwise}
}
func answer(args ...int) api.LowTerm { return api.LowTerm{Kind: api.TeReturn, Args: args} }
func fail() api.LowTerm              { return api.LowTerm{Kind: api.TePanic} }

func block(end api.LowTerm, list ...api.Low) api.LowBlock {
	return api.LowBlock{List: list, Term: end}
}

// fn is a function with so many registers, params and answers.
func fn(regs int, params []int, answers int, blocks ...api.LowBlock) api.LowFunc {
	return api.LowFunc{Name: "f", Regs: regs, Params: params, Answers: answers, Frame: 4, Blocks: blocks}
}

// regs are the numbers of some registers.
func regs(list ...int) []int { return list }

// sets are the registers of several blocks.
func sets(list ...[]int) [][]int { return list }

func alike(a, b [][]int) bool { return slices.EqualFunc(a, b, slices.Equal[[]int]) }

func wantLive(t *testing.T, what string, f api.LowFunc, in, out [][]int) {
	t.Helper()
	gotIn, gotOut := live.Live(f)
	if !alike(gotIn, in) || !alike(gotOut, out) {
		t.Errorf("%s: %v and %v, not %v and %v", what, gotIn, gotOut, in, out)
	}
}

// span is a range without a call.
func span(from, to int) live.Range { return live.Range{From: from, To: to} }

// around is a range with one.
func around(from, to int) live.Range { return live.Range{From: from, To: to, Calls: true} }

// unused is the range of a register that nothing uses.
func unused() live.Range { return span(-1, -1) }

func wantRanges(t *testing.T, what string, f api.LowFunc, list ...live.Range) {
	t.Helper()
	if got := live.Ranges(f); !slices.Equal(got, list) {
		t.Errorf("%s: %v, not %v", what, got, list)
	}
}

// wantNothing asks that nothing is told of a function.
func wantNothing(t *testing.T, what string, f api.LowFunc) {
	t.Helper()
	in, out := live.Live(f)
	if all := live.Ranges(f); len(in) != 0 || len(out) != 0 || len(all) != 0 {
		t.Errorf("%s: %v, %v, %v", what, in, out, all)
	}
}

// wantSomething asks that a function is taken, and that what is told is what the plain words say.
func wantSomething(t *testing.T, what string, f api.LowFunc) {
	t.Helper()
	in, out := live.Live(f)
	if len(in) != len(f.Blocks) || len(out) != len(f.Blocks) || len(live.Ranges(f)) != f.Regs {
		t.Errorf("%s: it is refused", what)
		return
	}
	holdAgainstPlain(t, what, f)
}

// holdAgainstPlain asks of a function that is taken whether what is told is what the plain words say.
func holdAgainstPlain(t *testing.T, what string, f api.LowFunc) {
	t.Helper()
	p := plainOf(f)
	in, out := live.Live(f)
	if wantIn, wantOut := p.live(); !alike(in, wantIn) || !alike(out, wantOut) {
		t.Fatalf("%s: %v and %v, not %v and %v: %.3000s", what, in, out, wantIn, wantOut, fmt.Sprint(f))
	}
	if got, want := live.Ranges(f), p.ranges(); !slices.Equal(got, want) {
		t.Fatalf("%s: %v, not %v: %.3000s", what, got, want, fmt.Sprint(f))
	}
}
