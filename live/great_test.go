package live_test

import (
	"slices"
	"testing"
	"time"

	"ferrule/api"
	"ferrule/live"
)

// Great functions are told in time.

const mostRegs = 1 << 16

// inTime does something, and asks that it does not take long.
func inTime(t *testing.T, what string, do func()) {
	t.Helper()
	begun := time.Now()
	do()
	if took := time.Since(begun); took > 20*time.Second {
		t.Errorf("%s: %v", what, took)
	}
}

// TestManyBlocks: a word comes all the way through a line of blocks.
func TestManyBlocks(t *testing.T) {
	const many = 300_000
	f := fn(2, regs(0), 1)
	for k := range many {
		f.Blocks = append(f.Blocks, block(jump(k+1), li(1, k)))
	}
	f.Blocks = append(f.Blocks, block(answer(0)))
	inTime(t, "a line", func() {
		wantRanges(t, "a line", f, span(0, 3*many+1), span(1, 3*many-2))
		in, out := live.Live(f)
		for k := range in {
			if !slices.Equal(in[k], regs(0)) || k < many && !slices.Equal(out[k], regs(0)) || k == many && len(out[k]) > 0 {
				t.Fatal(k, in[k], out[k])
			}
		}
	})
	// The same from the last block to the first one.
	back := fn(2, regs(0), 1, block(jump(many)), block(answer(0)))
	for k := range many - 1 {
		back.Blocks = append(back.Blocks, block(jump(k+1)))
	}
	inTime(t, "a line back", func() { wantRanges(t, "a line back", back, span(0, 2*many+1), unused()) })
}

// TestManyGoals: all blocks go to one, and each of them goes to two.
func TestManyGoals(t *testing.T) {
	const many = 100_000
	f := fn(3, nil, 0)
	for k := range many {
		f.Blocks = append(f.Blocks, block(branch(0, "eq", 1, 0, (k+1)%many), show(2)))
	}
	inTime(t, "all go back", func() {
		wantRanges(t, "all go back", f, span(0, 3*many-1), span(0, 3*many-1), span(0, 3*many-1))
		in, out := live.Live(f)
		for k := range in {
			if !slices.Equal(in[k], regs(0, 1, 2)) || !slices.Equal(out[k], regs(0, 1, 2)) {
				t.Fatal(k, in[k], out[k])
			}
		}
	})
}

// TestLoopsInLoops: each loop has a counter of its own, which is set ahead of it.
func TestLoopsInLoops(t *testing.T) {
	const deep = 1500
	f := fn(deep+1, regs(deep), 0, block(jump(1)))
	for k := range deep { // the heads, from the outermost one on
		f.Blocks = append(f.Blocks, block(branch(k, "lt", deep, k+2, 2*deep-k+1), imm(k, k, "add", 1)))
	}
	for k := range deep { // the ends, from the innermost one on
		f.Blocks = append(f.Blocks, block(jump(deep-k)))
	}
	f.Blocks = append(f.Blocks, block(answer()))
	inTime(t, "loops in loops", func() { wantSameLists(t, f, deep) })
}

// wantSameLists asks that all registers are needed wherever a loop can be come to again.
func wantSameLists(t *testing.T, f api.LowFunc, deep int) {
	t.Helper()
	in, out := live.Live(f)
	for k := 1; k <= deep; k++ {
		if len(in[k]) != deep+1 || !slices.IsSorted(in[k]) || len(out[k]) != deep+1 {
			t.Fatal(k, len(in[k]), len(out[k]))
		}
	}
	for reg, r := range live.Ranges(f) {
		if r.From != 0 || r.To < 3*reg || r.Calls {
			t.Fatal(reg, r)
		}
	}
}

// TestManyRegisters: very many registers are needed at one time, through many blocks, or each for a short time.
func TestManyRegisters(t *testing.T) {
	const through = 100
	f := fn(mostRegs, nil, 0)
	first, last := block(jump(1)), block(answer())
	for reg := range mostRegs {
		first.List, last.List = append(first.List, li(reg, 1)), append(last.List, show(reg))
	}
	f.Blocks = append(f.Blocks, first)
	for k := range through {
		f.Blocks = append(f.Blocks, block(jump(k+2)))
	}
	f.Blocks = append(f.Blocks, last)
	inTime(t, "at one time", func() {
		for reg, r := range live.Ranges(f) {
			if r != span(1+reg, mostRegs+2*through+3+reg) {
				t.Fatal(reg, r)
			}
		}
		in, out := live.Live(f)
		if len(in[0]) != 0 || len(out[0]) != mostRegs || len(in[through]) != mostRegs || len(out[through+1]) != 0 || !slices.IsSorted(in[5]) {
			t.Fatal(len(in[0]), len(out[0]))
		}
	})
	short := fn(mostRegs, nil, 0)
	for k := range 1_000_000 {
		short.Blocks = append(short.Blocks, block(jump(k+1), li(k%mostRegs, 1), show(k%mostRegs)))
	}
	short.Blocks = append(short.Blocks, block(answer()))
	inTime(t, "each for a short time", func() {
		in, _ := live.Live(short)
		if slices.ContainsFunc(in, func(list []int) bool { return len(list) > 0 }) {
			t.Fatal("something is needed")
		}
		if r := live.Ranges(short)[1]; r.From != 5 || r.Calls {
			t.Fatal(r)
		}
	})
}

// TestManyCalls: very many calls, with very many registers.
func TestManyCalls(t *testing.T) {
	const many = 1_000_000
	list := make([]int, many)
	for k := range list {
		list[k] = k % 3
	}
	f := fn(4, nil, 0, block(answer(), li(3, 1), calls(list, "g", list...), show(3)))
	inTime(t, "many Args", func() { wantRanges(t, "many Args", f, span(0, 2), span(0, 2), span(0, 2), around(1, 3)) })
	f = fn(2, nil, 0, block(answer(), li(0, 1)))
	for range many {
		f.Blocks[0].List = append(f.Blocks[0].List, calls(nil, "g", 0), calls(regs(1), "h"))
	}
	inTime(t, "many calls", func() { wantRanges(t, "many calls", f, around(1, 2*many), around(3, 2*many+1)) })
}
