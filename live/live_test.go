package live_test

import (
	"slices"
	"testing"

	"ferrule/api"
	"ferrule/live"
)

// of6 is a function of six registers, with one block.
func of6(end api.LowTerm, list ...api.Low) api.LowFunc {
	return fn(6, nil, len(end.Args), block(end, list...))
}

// part is an instruction, and what it reads and sets.
type part struct {
	what        string
	in          api.Low
	reads, sets []int
}

func parts() []part {
	return []part{
		{"LoLi", li(1, 5), nil, regs(1)},
		{"LoMv", mv(1, 2), regs(2), regs(1)},
		{"LoMv of 0", mv(1, zero), nil, regs(1)},
		{"LoMv of itself", mv(2, 2), regs(2), regs(2)},
		{"LoBin", bin(1, 4, "add", 3), regs(3, 4), regs(1)},
		{"LoBin of one twice", bin(1, 3, "mul", 3), regs(3), regs(1)},
		{"LoBin of 0", bin(1, zero, "sub", 3), regs(3), regs(1)},
		{"LoBin and 0", bin(1, 3, "xor", zero), regs(3), regs(1)},
		{"LoBin into its A", bin(2, 2, "add", 0), regs(0, 2), regs(2)},
		{"LoBin into its B", bin(2, 0, "add", 2), regs(0, 2), regs(2)},
		{"LoBin into both", bin(5, 5, "add", 5), regs(5), regs(5)},
		{"LoImm", imm(1, 2, "add", 3), regs(2), regs(1)},
		{"LoImm of 0", imm(1, zero, "or", 3), nil, regs(1)},
		{"LoImm of the frame", imm(1, frame, "add", 4), nil, regs(1)},
		{"LoImm into its A", imm(1, 1, "sll", 4), regs(1), regs(1)},
		{"LoLw", lw(1, 2, 4), regs(2), regs(1)},
		{"LoLw of 0", lw(1, zero, 4), nil, regs(1)},
		{"LoLw of the frame", lw(1, frame, 4), nil, regs(1)},
		{"LoLw into its A", lw(1, 1, 4), regs(1), regs(1)},
		{"LoSw", sw(2, 4, 1), regs(1, 2), nil},
		{"LoSw of one twice", sw(2, 4, 2), regs(2), nil},
		{"LoSw into the frame", sw(frame, 4, 1), regs(1), nil},
		{"LoSw at 0", sw(zero, 4, 1), regs(1), nil},
		{"LoSw of 0", sw(1, 4, zero), regs(1), nil},
		{"LoSw of 0 into the frame", sw(frame, 4, zero), nil, nil},
		{"LoCall", calls(regs(1, 4), "g", 3, 2), regs(2, 3), regs(1, 4)},
		{"LoCall of nothing", calls(nil, "g"), nil, nil},
		{"LoCall with Args alone", calls(nil, "g", 5, 0, 5), regs(0, 5), nil},
		{"LoCall with Dsts alone", calls(regs(5, 0, 5), "g"), nil, regs(0, 5)},
		{"LoCall of 0", calls(regs(1), "g", zero, 2, zero), regs(2), regs(1)},
		{"LoCall into its Args", calls(regs(2, 1), "g", 1, 2), regs(1, 2), regs(1, 2)},
		{"LoPrint", show(3), regs(3), nil},
		{"LoPrint of 0", show(zero), nil, nil},
		{"LoRead", read(4), nil, regs(4)},
		{"LoAlloc", alloc(5, 3), nil, regs(5)},
		{"LoFree", free(0), regs(0), nil},
		{"LoFree of 0", free(zero), nil, nil},
	}
}

// TestEachOperation asks what each operation reads, and what it sets: alone, ahead of what reads all registers, and behind it.
func TestEachOperation(t *testing.T) {
	all := regs(0, 1, 2, 3, 4, 5)
	for _, x := range parts() {
		wantLive(t, x.what, of6(answer(), x.in), sets(x.reads), sets(nil))
		var needed []int
		for _, reg := range all {
			if slices.Contains(x.reads, reg) || !slices.Contains(x.sets, reg) {
				needed = append(needed, reg)
			}
		}
		wantLive(t, x.what+" ahead of all", of6(answer(all...), x.in), sets(needed), sets(nil))
		wantLive(t, x.what+" in a block of its own", fn(6, nil, 6, block(jump(1), x.in), block(answer(all...))), sets(needed, all), sets(all, nil))
		wantLive(t, x.what+" behind what sets all", of6(answer(), calls(all, "g"), x.in), sets(nil), sets(nil))
		wantLive(t, x.what+" twice", of6(answer(), x.in, x.in), sets(x.reads), sets(nil))
		var ranges []live.Range
		for _, reg := range all {
			want := unused()
			if slices.Contains(x.reads, reg) {
				want = span(0, 1)
			} else if slices.Contains(x.sets, reg) {
				want = span(1, 1)
			}
			ranges = append(ranges, want)
		}
		wantRanges(t, x.what, of6(answer(), x.in), ranges...)
	}
}

// TestEachEnd asks what each end reads, and where it goes.
func TestEachEnd(t *testing.T) {
	four := func(end api.LowTerm) api.LowFunc {
		return fn(6, nil, 2, block(end), block(answer(1, zero)), block(answer(2, 3)), block(fail(), show(4)))
	}
	for _, x := range []struct {
		what    string
		end     api.LowTerm
		in, out []int
	}{
		{"TeGoto", jump(1), regs(1), regs(1)},
		{"TeGoto to another", jump(2), regs(2, 3), regs(2, 3)},
		{"TeGoto to itself", jump(0), nil, nil},
		{"TeIf", branch(5, "lt", 0, 1, 2), regs(0, 1, 2, 3, 5), regs(1, 2, 3)},
		{"TeIf the other way", branch(5, "lt", 0, 2, 1), regs(0, 1, 2, 3, 5), regs(1, 2, 3)},
		{"TeIf of one register", branch(5, "eq", 5, 3, 1), regs(1, 4, 5), regs(1, 4)},
		{"TeIf of what is needed behind it", branch(4, "ne", 1, 3, 1), regs(1, 4), regs(1, 4)},
		{"TeIf of 0", branch(zero, "ne", 5, 3, 3), regs(4, 5), regs(4)},
		{"TeIf and 0", branch(5, "ge", zero, 3, 3), regs(4, 5), regs(4)},
		{"TeIf of 0 and 0", branch(zero, "geu", zero, 1, 1), regs(1), regs(1)},
		{"TeIf round", branch(5, "ltu", 4, 0, 0), regs(4, 5), regs(4, 5)},
		{"TeIf round or on", branch(5, "ltu", 4, 0, 1), regs(1, 4, 5), regs(1, 4, 5)},
		{"TeReturn", answer(5, 0), regs(0, 5), nil},
		{"TeReturn of one twice", answer(3, 3), regs(3), nil},
		{"TeReturn of 0", answer(zero, 3), regs(3), nil},
		{"TePanic", fail(), nil, nil},
	} {
		wantLive(t, x.what, four(x.end), sets(x.in, regs(1), regs(2, 3), regs(4)), sets(x.out, nil, nil, nil))
		holdAgainstPlain(t, x.what, four(x.end))
	}
	wantLive(t, "TeReturn of nothing", fn(1, nil, 0, block(answer())), sets(nil), sets(nil))
}

// TestWays asks what is needed where ways part, meet and go round.
func TestWays(t *testing.T) {
	fork := func(left, right []api.Low) api.LowFunc {
		return fn(4, regs(0), 1, block(branch(0, "eq", zero, 1, 2)), block(jump(3), left...), block(jump(3), right...), block(answer(1)))
	}
	list := func(l ...api.Low) []api.Low { return l }
	wantLive(t, "set on both ways", fork(list(li(1, 1)), list(li(1, 2))), sets(regs(0), nil, nil, regs(1)), sets(nil, regs(1), regs(1), nil))
	wantLive(t, "set on one way", fork(list(li(1, 1)), nil), sets(regs(0, 1), nil, regs(1), regs(1)), sets(regs(1), regs(1), regs(1), nil))
	wantLive(t, "set on the other way", fork(nil, list(li(1, 1))), sets(regs(0, 1), regs(1), nil, regs(1)), sets(regs(1), regs(1), regs(1), nil))
	wantLive(t, "set on no way", fork(nil, nil), sets(regs(0, 1), regs(1), regs(1), regs(1)), sets(regs(1), regs(1), regs(1), nil))
	wantLive(t, "read ahead of that", fork(list(show(3), li(1, 1)), list(show(2), mv(1, 1))), sets(regs(0, 1, 2, 3), regs(3), regs(1, 2), regs(1)), sets(regs(1, 2, 3), regs(1), regs(1), nil))
	wantLive(t, "set and set again", fork(list(li(2, 1), li(2, 2), mv(1, 2)), list(mv(1, 2), li(2, 3))), sets(regs(0, 2), nil, regs(2), regs(1)), sets(regs(2), regs(1), regs(1), nil))

	loop := fn(3, regs(2), 1,
		block(jump(1), li(0, 0), li(1, 0)),
		block(branch(0, "lt", 2, 2, 3)),
		block(jump(1), bin(1, 1, "add", 0), imm(0, 0, "add", 1)),
		block(answer(1)))
	wantLive(t, "a loop", loop, sets(regs(2), regs(0, 1, 2), regs(0, 1, 2), regs(1)), sets(regs(0, 1, 2), regs(0, 1, 2), regs(0, 1, 2), nil))

	nested := fn(5, regs(3, 4), 0,
		block(jump(1), li(0, 0)),
		block(branch(0, "lt", 3, 2, 5), li(1, 0)),
		block(branch(1, "lt", 4, 3, 4), li(2, 7)),
		block(jump(2), show(2), imm(1, 1, "add", 1)),
		block(jump(1), imm(0, 0, "add", 1)),
		block(answer()))
	wantLive(t, "a loop in a loop", nested,
		sets(regs(3, 4), regs(0, 3, 4), regs(0, 1, 3, 4), regs(0, 1, 2, 3, 4), regs(0, 3, 4), nil),
		sets(regs(0, 3, 4), regs(0, 1, 3, 4), regs(0, 1, 2, 3, 4), regs(0, 1, 3, 4), regs(0, 3, 4), nil))

	back := fn(2, nil, 0, block(jump(2)), block(answer(), show(0)), block(jump(1), li(1, 1)))
	wantLive(t, "a way back", back, sets(regs(0), regs(0), regs(0)), sets(regs(0), nil, regs(0)))

	apart := fn(4, regs(0), 0,
		block(answer(), show(0)),
		block(jump(2), li(1, 1), show(2)),
		block(branch(3, "eq", 1, 1, 0), show(1)),
		block(jump(3)))
	wantLive(t, "blocks that nothing goes to", apart, sets(regs(0), regs(0, 2, 3), regs(0, 1, 2, 3), nil), sets(nil, regs(0, 1, 2, 3), regs(0, 2, 3), nil))

	far := fn(2, nil, 0, block(branch(zero, "eq", zero, 1, 2)), block(jump(1)), block(fail()), block(answer(), show(1)))
	wantLive(t, "nothing comes to what reads it", far, sets(nil, nil, nil, regs(1)), sets(nil, nil, nil, nil))

	for _, f := range []api.LowFunc{loop, nested, back, apart, far} {
		holdAgainstPlain(t, "ways", f)
	}
}

// TestFewRegisters: a function may have none, or many that nothing uses.
func TestFewRegisters(t *testing.T) {
	none := fn(0, nil, 1, block(branch(zero, "eq", zero, 0, 1), sw(frame, 0, zero), show(zero), calls(nil, "g", zero)), block(answer(zero)))
	wantLive(t, "no registers", none, sets(nil, nil), sets(nil, nil))
	wantRanges(t, "no registers", none)
	many := fn(1<<16, regs(1<<16-1), 0, block(answer(), show(1<<16-2)))
	wantLive(t, "the most registers", many, sets(regs(1<<16-2)), sets(nil))
	wantRanges(t, "the most registers", many, append(slices.Repeat([]live.Range{unused()}, 1<<16-2), span(0, 1), span(0, 0))...)
	wantLive(t, "no name", api.LowFunc{Regs: 1, Blocks: []api.LowBlock{block(answer(), show(0))}}, sets(regs(0)), sets(nil))
}

// TestParams: whether a register is a param does not matter to where it is needed.
func TestParams(t *testing.T) {
	f := fn(4, regs(3, 1, 3), 1, block(answer(3), show(0)))
	wantLive(t, "params", f, sets(regs(0, 3)), sets(nil))
	f.Params = nil
	wantLive(t, "without params", f, sets(regs(0, 3)), sets(nil))
}
