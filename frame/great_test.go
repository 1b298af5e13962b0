package frame_test

import (
	"fmt"
	"testing"
	"time"

	"ferrule/api"
	"ferrule/frame"
)

// Great functions, and very many, are told in time.

const mostRegs = 1 << 16

func inTime(t *testing.T, what string, want api.Errno, l ...api.LowFunc) {
	t.Helper()
	begun := time.Now()
	a, e := frame.Lines(l)
	if e != want || (e == api.OK) != (len(a) > 0) {
		t.Errorf("%s: %d lines, error %d", what, len(a), int(e))
	}
	for _, f := range l[:min(len(l), 10)] {
		frame.Size(f)
	}
	if took := time.Since(begun); took > 30*time.Second {
		t.Errorf("%s: %v", what, took)
	}
}

func TestVeryManyRegisters(t *testing.T) {
	t.Parallel()
	f := starts(mostRegs, 0)
	for k := range mostRegs {
		f.Blocks[0].List = append(f.Blocks[0].List, li(k, k), show(k))
	}
	inTime(t, "one behind the other", api.OK, f)
	f = starts(mostRegs, 499)
	for k := range mostRegs {
		f.Blocks[0].List = append(f.Blocks[0].List, imm(k, within, "add", k%1996), sw(k, 0, k), lw(k, within, k%499*4))
	}
	inTime(t, "addresses of the frame", api.OK, f)
	f = starts(mostRegs, 0)
	for k := range mostRegs {
		f.Blocks[0].List = append(f.Blocks[0].List, show(k))
	}
	inTime(t, "all are 0 at first", api.ErrFrame, f)
	inTime(t, "all at one time", api.ErrFrame, together(mostRegs, true, 0), starts(0, 0))
}

func TestVeryManyBlocks(t *testing.T) {
	t.Parallel()
	const many = 100_000
	f := fn("main", 480, nil, 0, 10)
	for k := range many {
		f.Blocks = append(f.Blocks, block(branch(k%480, "lt", (k+7)%480, k+1, k/10*10), imm(k%480, k%480, "add", 1), sw(within, k%10*4, k%480)))
	}
	f.Blocks = append(f.Blocks, block(answer()))
	inTime(t, "in one circle", api.OK, f)
	for k := range f.Blocks {
		f.Blocks[k].Term = answer()
	}
	inTime(t, "each ends the call", api.OK, f)
}

func TestVeryManyFunctions(t *testing.T) {
	const many = 20_000
	l := []api.LowFunc{starts(1, 0, li(0, 1), calls(nil, "f0", 0))}
	for k := range many {
		f := fn(fmt.Sprint("f", k), 3, regs(2), 0, 1, block(answer(), imm(0, 2, "add", 1), sw(within, 0, 0), calls(nil, fmt.Sprint("f", (k+1)%many), 0), show(2)))
		f.Quiet = k%3 == 0
		l = append(l, f)
	}
	inTime(t, "each calls the next one", api.OK, l...)
	l[many].Frame = 600
	inTime(t, "the last one is too big", api.ErrFrame, l...)
	l[many].Params = regs(3)
	inTime(t, "the last one is not of the form", api.ErrForm, l...)
}

// As many registers, or words, as a frame has room for, none of which was set.
func TestManyAtFirst(t *testing.T) {
	for _, many := range []int{1, 15, 16, 31, 32, 33, 100, 499} {
		var reads, loads []api.Low
		for k := range many {
			reads = append(reads, show(k))
			loads = append(loads, lw(0, within, 4*k), sw(within, 4*k, zero))
		}
		hold(t, fmt.Sprint(many, " registers"), starts(many, 0, append(reads, calls(nil, "f"))...), fn("f", many, nil, 0, 0, block(answer(), reads...)))
		hold(t, fmt.Sprint(many, " words"), starts(1, many, loads...))
	}
}
