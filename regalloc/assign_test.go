package regalloc_test

import (
	"fmt"
	"math/rand"
	"slices"
	"testing"

	"ferrule/api"
	"ferrule/live"
	"ferrule/regalloc"
)

// P21.1.
func TestKeptAndLost(t *testing.T) {
	for range 3 {
		kept, lost := regalloc.Kept(), regalloc.Lost()
		if !slices.Equal(kept, theKept()) || !slices.Equal(lost, theLost()) {
			t.Fatal(kept, lost)
		}
		for _, list := range [][]int{kept, lost} {
			list = list[:cap(list)]
			for k := range list {
				list[k] = 77
			}
		}
		x := byWords(t, "once the lists were changed", window(15, 40, 0, false))
		if slices.Contains(x.at, 77) {
			t.Fatal(x)
		}
	}
}

// The chapter's example, and other small functions.
func TestSmall(t *testing.T) {
	for _, x := range []struct {
		what string
		f    api.LowFunc
	}{
		{"three registers", fn(3, nil, 1, block(answer(2), li(0, 1), li(1, 2), bin(2, 0, "add", 1)))},
		{"three over a call", fn(3, nil, 1, block(answer(0), li(0, 1), li(1, 2), li(2, 3), calls(nil, "g"), bin(0, 0, "add", 1), bin(0, 0, "add", 2)))},
		{"one that is read and never set", fn(1, nil, 0, block(answer(), calls(nil, "g"), show(0)))},
		{"one that is set and never read", fn(1, nil, 0, block(answer(), calls(nil, "g"), li(0, 1), calls(nil, "g")))},
		{"params that nothing reads", fn(8, regs(0, 1, 2, 3, 4, 5, 6, 7), 0, block(answer()))},
		{"one register as all params", fn(2, make([]int, 8), 0, block(answer(), show(1)))},
		{"a loop", fn(4, regs(2), 1, block(jump(1), li(0, 0), li(1, 0)), block(branch(0, "lt", 2, 2, 3)), block(jump(1), bin(1, 1, "add", 0), li(3, 1), bin(0, 0, "add", 3)), block(answer(1)))},
		{"a loop with a call", fn(4, regs(2), 1, block(jump(1), li(0, 0), li(1, 0)), block(branch(0, "lt", 2, 2, 3)), block(jump(1), calls(regs(1), "g", 1, 0), li(3, 1), bin(0, 0, "add", 3)), block(answer(1)))},
		{"branches", fn(3, nil, 0, block(branch(0, "eq", 1, 1, 2), read(0), read(1)), block(jump(3), li(2, 1)), block(jump(3), calls(regs(2), "g")), block(answer(), show(2)))},
		{"a frame", fn(3, nil, 0, block(answer(), imm(0, frame, "add", 4), li(1, 9), sw(0, 0, 1), calls(nil, "g", 0), lw(2, 0, 0), show(2)))},
		{"blocks of a heap", fn(2, nil, 0, block(answer(), alloc(0, 4), li(1, 2), sw(0, 0, 1), free(0)))},
		{"a block that nothing goes to", fn(3, nil, 0, block(answer()), block(answer(), show(0), li(1, 1), calls(nil, "g"), show(1)))},
		{"a call of itself", fn(2, regs(0), 1, block(answer(1), calls(regs(1), "f", 0), bin(1, 1, "add", 0)))},
	} {
		if got := byWords(t, x.what, x.f); got.slots != 0 {
			t.Errorf("%s: %v", x.what, got)
		}
	}
}

// P21.2: 0 of registers that are never used, and of no others.
func TestUnused(t *testing.T) {
	f := fn(7, regs(4), 0, block(answer(), li(1, 1), calls(nil, "g"), show(3)))
	x := byWords(t, "some are used", f)
	for reg, at := range x.at {
		if isUsed := slices.Contains(regs(1, 3, 4), reg); isUsed == (at == 0) {
			t.Error(reg, x)
		}
	}
	x = byWords(t, "none is used", fn(1<<16, nil, 0, block(answer(), calls(nil, "g"))))
	if x.slots != 0 || slices.Max(x.at) != 0 || slices.Min(x.at) != 0 {
		t.Error("something lies somewhere")
	}
	many := window(40, 200, 0, true)
	many.Regs = 1000
	x = byWords(t, "those behind are not used", many)
	if x.slots == 0 || slices.Max(x.at[200:]) != 0 || slices.Min(x.at[200:]) != 0 {
		t.Error(x)
	}
}

// P21.2: a function without registers has blocks, and nothing to tell.
func TestNoRegisters(t *testing.T) {
	for _, f := range []api.LowFunc{
		{Blocks: []api.LowBlock{block(answer())}},
		{Name: "main", Params: regs(), Blocks: []api.LowBlock{block(fail())}},
		fn(0, nil, 2, block(answer(zero, zero), show(zero), sw(frame, 0, zero), calls(nil, "g", zero))),
		fn(0, nil, 0, block(jump(1)), block(branch(zero, "eq", zero, 0, 2)), block(answer(), calls(nil, "f"))),
	} {
		if x := byWords(t, "no registers", f); x.slots != 0 {
			t.Error(x)
		}
	}
	for _, f := range lowered(t, "fn main() {}") {
		byWords(t, "a program without anything", f)
	}
}

// window is a function in which just so many ranges lie at one position, from its first ones to its last ones on, of so many in all, each over a call or none; but that the first ones, as many as stay, lie there to its end, over a call.
func window(width, all, stay int, call bool) api.LowFunc {
	var list []api.Low
	for reg := range all {
		switch {
		case reg == stay && stay > 0:
			list = append(list, calls(nil, "g"))
		case reg >= width:
			list = append(list, show(reg-width+stay))
		}
		list = append(list, li(reg, reg))
		if call {
			list = append(list, calls(nil, "g"))
		}
	}
	for reg := range min(width, all) {
		if reg >= stay {
			reg += all - min(width, all)
		}
		list = append(list, show(reg))
	}
	return fn(all, nil, 0, block(answer(), list...))
}

// P21.4: just as many ranges at each position as there are registers, and one more.
func TestWindows(t *testing.T) {
	for width := 1; width <= 40; width++ {
		for _, call := range []bool{false, true} {
			room, with := 15, 0
			for _, all := range []int{width, width + 1, width + 7, 3*width + 2, 200} {
				if call {
					room, with = 11, all
				}
				what := fmt.Sprintf("width %d, %d in all, calls: %v", width, all, call)
				x := byWords(t, what, window(width, all, 0, call))
				if x.most() != width || x.hasCalls() != with {
					t.Fatalf("%s: %d at one position, %d with Calls", what, x.most(), x.hasCalls())
				}
				if (width <= room) != (x.slots == 0) {
					t.Errorf("%s: %d slots", what, x.slots)
				}
			}
		}
	}
}

// P21.4: the same where some of the ranges have Calls.
func TestMixedWindows(t *testing.T) {
	for width := 2; width <= 30; width++ {
		for stay := 1; stay < width; stay++ {
			for _, all := range []int{width, width + 1, 100} {
				what := fmt.Sprintf("width %d, %d in all, %d of them over a call", width, all, stay)
				x := byWords(t, what, window(width, all, stay, false))
				if x.most() != width || x.hasCalls() != stay {
					t.Fatalf("%s: %d at one position, %d with Calls: %v", what, x.most(), x.hasCalls(), x)
				}
				if width <= 11 && x.slots != 0 || (width > 15 || stay > 11) && x.slots == 0 {
					t.Errorf("%s: %d slots", what, x.slots)
				}
			}
		}
	}
}

// P21.4: the position with most of them stands anywhere in the function, and their number falls and rises again.
func TestTops(t *testing.T) {
	for _, call := range []bool{false, true} {
		for top := 8; top < 20; top++ {
			var list []api.Low
			next := 0
			rise := func(many int) {
				first := next
				for range many {
					list = append(list, li(next, 1))
					next++
				}
				if call {
					list = append(list, calls(nil, "g"))
				}
				for reg := next - 1; reg >= first; reg-- {
					list = append(list, show(reg))
				}
			}
			for _, many := range []int{3, 8, top, 2, 6, top, 1} {
				rise(many)
			}
			f := fn(next, nil, 0, block(answer(), list...))
			x := byWords(t, fmt.Sprintf("top %d, calls %v", top, call), f)
			if room := map[bool]int{false: 15, true: 11}[call]; (top <= room) != (x.slots == 0) {
				t.Errorf("top %d, calls %v: %d slots", top, call, x.slots)
			}
		}
	}
}

// clique is a function in which so many ranges with a call and so many without one all meet one another, in an order made by chance; late: the call stands behind the ends of those without, else ahead of their beginnings.
func clique(r *rand.Rand, with, without int, late bool) api.LowFunc {
	names := r.Perm(with + without)
	begin := func(list ...int) (out []api.Low) {
		for _, k := range r.Perm(len(list)) {
			out = append(out, li(list[k], 1))
		}
		return out
	}
	end := func(list ...int) (out []api.Low) {
		for _, k := range r.Perm(len(list)) {
			out = append(out, show(list[k]))
		}
		return out
	}
	a, b, g := names[:with], names[with:], []api.Low{show(zero), calls(nil, "g"), show(zero)}
	list := slices.Concat(begin(a...), g, begin(b...), end(names...))
	if late {
		list = slices.Concat(begin(names...), end(b...), g, end(a...))
	}
	return fn(with+without, nil, 0, block(answer(), list...))
}

// P21.4: all ranges meet one another, fewer, as many and more than there are registers, with calls and without.
func TestCliques(t *testing.T) {
	r := rand.New(rand.NewSource(21))
	for with := range 24 {
		for without := range 24 {
			for turn := range 6 {
				what := fmt.Sprintf("%d with a call, %d without", with, without)
				x := byWords(t, what, clique(r, with, without, turn%2 == 0))
				if !x.allMeet() || x.hasCalls() != with {
					t.Fatalf("%s: %v", what, x)
				}
				if lie := with + without - x.slots; lie != mostInRegisters(with, without) {
					t.Errorf("%s: %d lie in registers", what, lie)
				}
			}
		}
	}
	for _, x := range [][3]int{{0, 0, 0}, {11, 0, 11}, {12, 0, 11}, {0, 15, 15}, {0, 16, 15}, {11, 4, 15}, {11, 5, 15}, {12, 3, 14}, {30, 1, 12}, {1, 30, 15}} {
		if got := mostInRegisters(x[0], x[1]); got != x[2] {
			t.Error(x, got)
		}
	}
}

// P21.4: ranges that all begin with the function, and that all go round a loop.
func TestAtOnce(t *testing.T) {
	for many := range 40 {
		for _, call := range []bool{false, true} {
			f := fn(many, nil, 0, block(jump(0)))
			if call {
				f.Blocks[0].List = append(f.Blocks[0].List, calls(nil, "g"))
			}
			for reg := range many {
				f.Blocks[0].List = append(f.Blocks[0].List, imm(reg, reg, "add", 1))
			}
			what := fmt.Sprintf("%d in a loop, calls: %v", many, call)
			x := byWords(t, what, f)
			want := many - mostInRegisters(0, many)
			if call {
				want = many - mostInRegisters(many, 0)
			}
			if !x.allMeet() || x.slots != want {
				t.Errorf("%s: %v", what, x)
			}
		}
	}
}

// Ranges that end where others begin do not meet; those of one position alone do, if others begin there.
func TestTouching(t *testing.T) {
	list := []api.Low{li(0, 1)}
	for reg := range 999 {
		list = append(list, mv(reg+1, reg))
	}
	x := byWords(t, "one behind the other", fn(1000, nil, 1, block(answer(999), list...)))
	if x.slots != 0 || x.most() != 2 {
		t.Error(x)
	}
	alone := block(answer())
	for reg := range 100 {
		alone.List = append(alone.List, li(reg, 1))
	}
	if x := byWords(t, "each at one position", fn(100, nil, 0, alone)); x.slots != 0 || x.most() != 1 {
		t.Error(x)
	}
	for many := range 24 {
		for others := range 24 {
			f := atOneCall(many, others)
			x := byWords(t, fmt.Sprintf("%d end, %d begin", many, others), f)
			if x.most() != many+others || many > 15 && x.slots == 0 || others > 15 && x.slots == 0 {
				t.Error(many, others, x)
			}
		}
	}
}

// atOneCall is a function in which so many ranges end at a call, and so many others begin there.
func atOneCall(ending, beginning int) api.LowFunc {
	b := block(answer())
	call := calls(nil, "g")
	for reg := range ending {
		b.List = append(b.List, li(reg, 1))
		call.Args = append(call.Args, reg)
	}
	for reg := range beginning {
		call.Dsts = append(call.Dsts, ending+reg)
	}
	b.List = append(b.List, call)
	for reg := range beginning {
		b.List = append(b.List, show(ending+reg))
	}
	return fn(ending+beginning, nil, 0, b)
}

// What a call answers and nobody needs does not come where another answer of it begins.
func TestAnswersApart(t *testing.T) {
	for many := 1; many <= 30; many++ {
		b := block(answer())
		var before, behind []int
		for reg := range many {
			before, behind = append(before, reg), append(behind, many+reg)
			b.List = append(b.List, li(reg, 1), show(reg))
		}
		b.List = append(b.List, calls(slices.Concat(before, behind), "g"))
		for reg := range many {
			b.List = append(b.List, show(many+reg))
		}
		x := byWords(t, fmt.Sprint(many, " answers that nobody needs"), fn(2*many, nil, 0, b))
		if live.Meet(x.ranges[0], x.ranges[many]) {
			t.Fatal("they meet")
		}
		if 2*many <= 11 && x.slots != 0 {
			t.Error(many, x.slots)
		}
	}
}

// Where not all can lie in registers, those that are needed longest leave them to many others: frames stay small.
func TestFewSlots(t *testing.T) {
	const long, short = 20, 100
	b := block(answer())
	for reg := range long {
		b.List = append(b.List, li(reg, 1))
	}
	for reg := long; reg < long+short; reg++ {
		b.List = append(b.List, li(reg, 1), calls(nil, "g"), show(reg))
	}
	for reg := range long {
		b.List = append(b.List, show(reg))
	}
	if x := byWords(t, "few slots", fn(long+short, nil, 0, b)); x.slots != long+1-len(theKept()) {
		t.Error(x.slots)
	}
}
