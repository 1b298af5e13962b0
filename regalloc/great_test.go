package regalloc_test

import (
	"fmt"
	"slices"
	"testing"
	"time"

	"ferrule/api"
)

// Great functions are told in time.

const mostRegs = 1 << 16

// inTime does something, and asks that it does not take long.
func inTime(t *testing.T, what string, do func()) {
	t.Helper()
	begun := time.Now()
	do()
	if took := time.Since(begun); took > 30*time.Second {
		t.Errorf("%s: %v", what, took)
	}
}

// TestAllAtOnce: all registers are needed at one time, without a call and with one, through many blocks.
func TestAllAtOnce(t *testing.T) {
	const through = 50
	for _, call := range []bool{false, true} {
		first, last := block(jump(1)), block(answer())
		for reg := range mostRegs {
			first.List, last.List = append(first.List, li(reg, 1)), append(last.List, show(reg))
		}
		if call {
			first.List = append(first.List, calls(nil, "g"))
		}
		f := fn(mostRegs, nil, 0, first)
		for k := range through {
			f.Blocks = append(f.Blocks, block(jump(k+2)))
		}
		f.Blocks = append(f.Blocks, last)
		inTime(t, "all at one time", func() {
			room := map[bool]int{false: 15, true: 11}[call]
			if x := byWords(t, "all at one time", f); mostRegs-x.slots != room {
				t.Errorf("calls: %v: %d lie in registers", call, mostRegs-x.slots)
			}
		})
	}
}

// TestGreatWindows: very many registers, of which few are needed at one time.
func TestGreatWindows(t *testing.T) {
	for _, x := range []struct {
		width, stay int
		call, full  bool
	}{{11, 0, true, false}, {12, 0, true, true}, {15, 0, false, false}, {16, 0, false, true}, {11, 6, false, false}, {17, 12, false, true}, {400, 200, true, true}} {
		what := fmt.Sprint(x)
		inTime(t, what, func() {
			got := byWords(t, what, window(x.width, mostRegs, x.stay, x.call))
			if got.most() != x.width || x.full != (got.slots > 0) {
				t.Errorf("%s: %d slots", what, got.slots)
			}
		})
	}
}

// TestManyBlocks: registers are set and read in very many blocks, in loops and out of them.
func TestManyBlocks(t *testing.T) {
	const many = 200_000
	f := fn(mostRegs, regs(0), 0)
	for k := range many {
		reg := 1 + k*(mostRegs-1)/many
		f.Blocks = append(f.Blocks, block(branch(reg, "eq", 0, k/10*10, k+1), li(reg, 1), show(reg)))
	}
	f.Blocks = append(f.Blocks, block(answer()))
	inTime(t, "loops one behind the other", func() {
		if x := byWords(t, "loops one behind the other", f); x.slots != 0 || slices.Contains(x.at, 0) {
			t.Error(x.slots)
		}
	})
	// The same with a call in each block, and a loop around all.
	for k := range f.Blocks {
		f.Blocks[k].List = append([]api.Low{calls(nil, "g", 0)}, f.Blocks[k].List...)
	}
	f.Blocks[many].Term = jump(0)
	inTime(t, "in one loop", func() { byWords(t, "in one loop", f) })
}

// TestManyAnswers: calls with very many answers, of which few are needed.
func TestManyAnswers(t *testing.T) {
	all := make([]int, mostRegs)
	for reg := range all {
		all[reg] = reg
	}
	f := fn(mostRegs, nil, 0, block(answer(), calls(all, "g", all[:5]...), show(7), calls(all, "g", all[mostRegs-5:]...)))
	inTime(t, "many answers", func() { byWords(t, "many answers", f) })
}
