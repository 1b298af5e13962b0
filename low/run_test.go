package low_test

import (
	"math"
	"slices"
	"testing"

	"ferrule/api"
	"ferrule/low"
	"ferrule/mir"
)

// steps are how many a run takes with fuel enough.
func steps(l ...api.LowFunc) int {
	_, n := low.Run(l, nil, plenty)
	return n
}

func TestRegisters(t *testing.T) {
	comes(t, "nothing", exit(), starts(0, 0))
	comes(t, "a register at first", exit(0, 0), starts(2, 0, show(0), show(1)))
	comes(t, "the last of all registers", exit(0, 7), starts(1<<16, 0, show(1<<16-1), li(1<<16-1, 7), show(1<<16-1)))
	comes(t, "LoLi", exit(5, -1, math.MinInt32, math.MaxInt32, 0, 1, -1), starts(7, 0, li(0, 5), li(1, -1), li(2, 1<<31), li(3, -1<<31-1), li(4, 1<<32), li(5, 1<<32+1), li(6, math.MaxInt),
		show(0), show(1), show(2), show(3), show(4), show(5), show(6)))
	comes(t, "LoMv", exit(5, 5, 6, 5), starts(2, 0, li(0, 5), mv(1, 0), show(0), show(1), li(0, 6), show(0), show(1)))
	comes(t, "LoMv of itself and of 0", exit(5, 0), starts(1, 0, li(0, 5), mv(0, 0), show(0), mv(0, zero), show(0)))
	comes(t, "LoPrint", exit(-1, 1<<32-1, 3, 3, -1, -1, 0, 0), starts(2, 0, li(0, -1), show(0), showFrom0(0), li(1, 3), show(1), showFrom0(1),
		api.Low{Op: api.LoPrint, A: 0, N: 2}, api.Low{Op: api.LoPrint, A: 0, N: -1}, show(zero), showFrom0(zero)))
	comesWith(t, "LoRead", exit(4, -1, 1, 0, math.MinInt32, 0, 0), []int{4, -1, 1<<32 + 1, -1 << 32, 1 << 31}, starts(1, 0, read(0), show(0), read(0), show(0), read(0), show(0), read(0), show(0), read(0), show(0), read(0), show(0), read(0), show(0)))
	comesWith(t, "LoRead of no input", exit(0), []int{}, starts(1, 0, li(0, 3), read(0), show(0)))
}

// TestOperations holds LoBin and LoImm of all names against mir.Do.
func TestOperations(t *testing.T) {
	for _, a := range []int{0, 1, -1, 7, -7, 31, 32, 100000, -2048, math.MaxInt32, math.MinInt32} {
		for _, b := range []int{0, 1, -1, 2, -3, 5, 31, 33, 2047, -2048, math.MaxInt32, math.MinInt32} {
			for _, op := range operations() {
				want, _ := mir.Do(op, a, b)
				comes(t, op, exit(want, a, b), starts(3, 0, li(0, a), li(1, b), bin(2, 0, op, 1), show(2), show(0), show(1)))
				comes(t, op+" onto its first one", exit(want), starts(2, 0, li(0, a), li(1, b), bin(0, 0, op, 1), show(0)))
				comes(t, op+" onto its second one", exit(want), starts(2, 0, li(0, a), li(1, b), bin(1, 0, op, 1), show(1)))
				from0, _ := mir.Do(op, 0, b)
				by0, _ := mir.Do(op, a, 0)
				comes(t, op+" with 0", exit(from0, by0), starts(3, 0, li(0, a), li(1, b), bin(2, zero, op, 1), show(2), bin(2, 0, op, zero), show(2)))
				bits := op == "sll" || op == "srl" || op == "sra"
				if !slices.Contains(immediates(), op) || b < -2048 || b > 2047 || bits && (b < 0 || b > 31) {
					continue
				}
				comes(t, op+" of a number", exit(want, a, want, from0), starts(2, 0, li(0, a), imm(1, 0, op, b), show(1), show(0), imm(0, 0, op, b), show(0), imm(0, zero, op, b), show(0)))
			}
		}
	}
}

func TestEnds(t *testing.T) {
	comes(t, "TePanic", failed(1), fn("main", 1, nil, 0, 0, block(jump(1), li(0, 1)), block(fail(), show(0))))
	comes(t, "TeGoto", exit(2, 1), fn("main", 1, nil, 0, 0, block(jump(2)), block(answer(), li(0, 1), show(0)), block(jump(1), li(0, 2), show(0))))
	for _, text := range texts() {
		for _, a := range []int{0, 1, -1, math.MaxInt32, math.MinInt32} {
			for _, b := range []int{0, 1, -1, math.MaxInt32, math.MinInt32} {
				way := func(yes bool) int {
					if yes {
						return 1
					}
					return 2
				}
				main := fn("main", 3, nil, 0, 0, block(branch(0, text, 1, 1, 2), li(0, a), li(1, b)), block(answer(), li(2, 1), show(2)), block(answer(), li(2, 2), show(2)))
				comes(t, text, exit(way(asked(text, a, b))), main)
				main.Blocks[0].Term.A = zero
				comes(t, text+" of 0", exit(way(asked(text, 0, b))), main)
				main.Blocks[0].Term.A, main.Blocks[0].Term.B = 0, zero
				comes(t, text+" with 0", exit(way(asked(text, a, 0))), main)
				main.Blocks[0].Term.B = 0
				comes(t, text+" with itself", exit(way(asked(text, a, a))), main)
			}
		}
	}
}

// sum is a loop that adds the numbers from 1 to r0's.
func sum() api.LowFunc {
	return fn("sum", 2, []int{0}, 1, 0, block(branch(0, "ne", zero, 1, 2)), block(jump(0), bin(1, 1, "add", 0), imm(0, 0, "add", -1)), block(answer(1)))
}

// fib calls itself.
func fib() api.LowFunc {
	return fn("fib", 3, []int{0}, 1, 0, block(branch(0, "lt", 1, 1, 2), li(1, 2)), block(answer(0)),
		block(answer(1), imm(1, 0, "add", -1), calls([]int{1}, "fib", 1), imm(2, 0, "add", -2), calls([]int{2}, "fib", 2), bin(1, 1, "add", 2)))
}

func TestLoopsAndCalls(t *testing.T) {
	comes(t, "a loop", exit(5050), starts(1, 0, li(0, 100), calls([]int{0}, "sum", 0), show(0)), sum())
	comes(t, "a function that calls itself", exit(610), fib(), starts(1, 0, li(0, 15), calls([]int{0}, "fib", 0), show(0)))
	comes(t, "params are the registers themselves, in order", exit(3, 1, 2), starts(4, 0, li(1, 1), li(2, 2), li(3, 3), calls(nil, "f", 1, 2, 3)),
		fn("f", 9, []int{4, 8, 0}, 0, 0, block(answer(), show(0), show(4), show(8))))
	comes(t, "a register twice among the params: the last one's word", exit(3, 2), starts(4, 0, li(1, 1), li(2, 2), li(3, 3), calls(nil, "f", 1, 2, 3)),
		fn("f", 2, []int{0, 1, 0}, 0, 0, block(answer(), show(0), show(1))))
	comes(t, "a register twice among the Dsts: the last one's word", exit(9, 8), starts(2, 0, calls([]int{0, 1, 0}, "f"), show(0), show(1)),
		fn("f", 3, nil, 3, 0, block(answer(0, 1, 2), li(0, 7), li(1, 8), li(2, 9))))
	comes(t, "words passed and answered crosswise", exit(2, 1), starts(2, 0, li(0, 1), li(1, 2), calls([]int{1, 0}, "f", 0, 1), show(0), show(1)),
		fn("f", 2, []int{0, 1}, 2, 0, block(answer(0, 1))))
	comes(t, "Args and answers of 0", exit(0, 0), starts(2, 0, li(1, 4), calls([]int{1}, "f", zero), show(1)), fn("f", 1, []int{0}, 1, 0, block(answer(zero), show(0), li(0, 9))))
	comes(t, "a call's registers are its own, 0 at first", exit(0, 0, 1), starts(1, 0, li(0, 1), calls(nil, "f"), calls(nil, "f"), show(0)), fn("f", 1, nil, 0, 0, block(answer(), show(0), li(0, 5))))
	comes(t, "eight words passed and answered", exit(8, 7, 6, 5, 4, 3, 2, 1), starts(8, 0, li(0, 1), li(1, 2), li(2, 3), li(3, 4), li(4, 5), li(5, 6), li(6, 7), li(7, 8),
		calls([]int{7, 6, 5, 4, 3, 2, 1, 0}, "f", 0, 1, 2, 3, 4, 5, 6, 7), show(0), show(1), show(2), show(3), show(4), show(5), show(6), show(7)),
		fn("f", 8, []int{0, 1, 2, 3, 4, 5, 6, 7}, 8, 0, block(answer(0, 1, 2, 3, 4, 5, 6, 7))))
	comes(t, "TePanic within calls", failed(1), starts(1, 0, calls(nil, "f"), show(0)), fn("f", 1, nil, 0, 0, block(answer(), calls(nil, "g"))), fn("g", 1, nil, 0, 0, block(fail(), li(0, 1), show(0))))
	comesWith(t, "main calls itself", exit(1, 2, 3, 0, 0, 0, 0), []int{1, 2, 3}, fn("main", 1, nil, 0, 0, block(branch(0, "eq", zero, 1, 2), read(0), show(0)), block(answer()), block(answer(), calls(nil, "main"), show(zero))))
	comes(t, "a call in the midst of a block", exit(1, 7, 2), starts(1, 0, li(0, 1), show(0), calls(nil, "f"), li(0, 2), show(0)), fn("f", 1, nil, 0, 0, block(jump(1), li(0, 7)), block(answer(), show(0))))
	comes(t, "one of the functions called main in the midst", exit(4), sum(), starts(1, 0, li(0, 4), show(0)), fib())
}

// TestSteps: a step is an instruction, or a block's end; so many were run.
func TestSteps(t *testing.T) {
	for _, c := range []struct {
		what string
		want int
		l    []api.LowFunc
	}{
		{"an end alone", 1, []api.LowFunc{starts(0, 0)}},
		{"two instructions", 3, []api.LowFunc{starts(1, 0, li(0, 1), show(0))}},
		{"a call", 5, []api.LowFunc{starts(1, 0, calls(nil, "f"), li(0, 1)), fn("f", 1, nil, 0, 0, block(answer(), li(0, 1)))}},
		{"blocks", 3, []api.LowFunc{fn("main", 1, nil, 0, 0, block(jump(1)), block(branch(0, "eq", 0, 2, 0)), block(fail()))}},
		{"a trap", 2, []api.LowFunc{starts(1, 0, li(0, 1), lw(0, 0, 0), show(0))}},
		{"a loop", 3 + 4*3 + 2, []api.LowFunc{starts(1, 0, li(0, 4), calls(nil, "loop", 0)), fn("loop", 1, []int{0}, 0, 0, block(branch(0, "ne", zero, 1, 2)), block(jump(0), imm(0, 0, "add", -1)), block(answer()))}},
	} {
		if got := steps(c.l...); got != c.want {
			t.Errorf("%s: %d steps, not %d", c.what, got, c.want)
		}
	}
}

// TestFuel: each fuel up to a run's steps, and beyond.
func TestFuel(t *testing.T) {
	l := []api.LowFunc{starts(2, 1, li(0, 3), show(0), calls([]int{1}, "sum", 0), show(1), sw(frame, 0, 1), lw(0, frame, 0), show(0)), sum()}
	full, all := low.Run(l, nil, plenty)
	if !alike(full, exit(3, 6, 6)) {
		t.Fatal(full)
	}
	printed := 0
	for fuel := range all {
		got, n := low.Run(l, nil, fuel)
		if got.Kind != api.OutFuel || got.Code != 0 || n != fuel || len(got.Print) < printed || !slices.Equal(got.Print, full.Print[:len(got.Print)]) {
			t.Errorf("fuel %d: %+v, %d", fuel, got, n)
		}
		printed = len(got.Print)
	}
	for _, fuel := range []int{all, all + 1, all + 2, 1 << 40, math.MaxInt} {
		if got, n := low.Run(l, nil, fuel); !alike(got, full) || n != all {
			t.Errorf("fuel %d: %+v, %d", fuel, got, n)
		}
	}
	for _, fuel := range []int{0, -1, -1 << 40, math.MinInt} {
		if got, n := low.Run(l, nil, fuel); !alike(got, outcome(api.OutFuel, 0)) || n != 0 {
			t.Errorf("fuel %d: %+v, %d", fuel, got, n)
		}
	}
	// What ends a run in the midst of something needs its step's fuel, too.
	for what, f := range map[string]api.LowFunc{
		"TePanic": fn("main", 1, nil, 0, 0, block(fail(), li(0, 1))), "TeReturn": starts(1, 0, li(0, 1)), "a trap": starts(1, 0, li(0, 1), lw(0, 0, 0)), "LoFree": starts(1, 0, li(0, 1), free(0)),
	} {
		want, _ := low.Run([]api.LowFunc{f}, nil, plenty)
		if got, n := low.Run([]api.LowFunc{f}, nil, 2); !alike(got, want) || n != 2 || want.Kind == api.OutFuel {
			t.Errorf("%s at its last step: %+v, %d", what, got, n)
		}
		if got, n := low.Run([]api.LowFunc{f}, nil, 1); !alike(got, outcome(api.OutFuel, 0)) || n != 1 {
			t.Errorf("%s one step ahead of it: %+v, %d", what, got, n)
		}
	}
	ever := fn("main", 0, nil, 0, 0, block(jump(0)))
	if got, n := low.Run([]api.LowFunc{ever}, nil, 12345); !alike(got, outcome(api.OutFuel, 0)) || n != 12345 {
		t.Errorf("a loop without an end: %+v, %d", got, n)
	}
}

// deep is functions that are, with main, so many calls deep: those behind main are of f, each of which shows how deep it is.
func deep(calling int) []api.LowFunc {
	return []api.LowFunc{
		starts(1, 0, li(0, calling), calls([]int{0}, "f", 0), show(0)),
		fn("f", 2, []int{0}, 1, 1, block(branch(0, "lt", 1, 1, 2), li(1, 2), sw(frame, 0, 0)), block(answer(0)),
			block(answer(1), imm(0, 0, "add", -1), calls([]int{1}, "f", 0), imm(1, 1, "add", 1))),
	}
}

func TestDepth(t *testing.T) {
	tooDeep := outcome(api.OutDepth, 0)
	comes(t, "as many calls as may be", exit(47), deep(47)...)
	comes(t, "one more", tooDeep, deep(48)...)
	comes(t, "far more", tooDeep, deep(100000)...)
	l := deep(48)
	l[0].Quiet = true
	comes(t, "a quiet main does not count", exit(48), l...)
	l = deep(49)
	l[0].Quiet = true
	comes(t, "a quiet main, and one more", tooDeep, l...)
	l = deep(391)
	l[1].Quiet = true
	comes(t, "as many quiet calls as may be", exit(391), l...)
	l = deep(392)
	l[1].Quiet = true
	comes(t, "one more quiet call", tooDeep, l...)
	l[0].Quiet = true
	comes(t, "one more quiet call of a quiet main", tooDeep, l...)
	for _, c := range []struct {
		loud, hushed int
		last         string
		fits         bool
	}{
		{46, 10, "loud", true}, {47, 10, "loud", false}, {47, 10, "hushed", true},
		{46, 344, "loud", true}, {46, 345, "loud", false}, {47, 343, "hushed", true}, {47, 344, "hushed", false},
	} {
		want := tooDeep
		if c.fits {
			want = exit(0, c.loud+c.hushed)
		}
		comes(t, "calls that count, quiet ones within them, and "+c.last, want, nested(c.loud, c.hushed, c.last)...)
	}
	// Calls that came back are not under way any more.
	again := []api.LowFunc{fn("main", 1, nil, 0, 0, block(jump(1), li(0, 1000)), block(branch(0, "ne", zero, 2, 3)), block(jump(1), imm(0, 0, "add", -1), calls(nil, "f"), calls(nil, "q")), block(answer(), show(0))),
		fn("f", 0, nil, 0, 3, block(answer())), quiet(fn("q", 0, nil, 0, 3, block(answer())))}
	comes(t, "many calls one behind the other", exit(0), again...)
}

// nested is main with so many calls within it that count, so many quiet ones within these, and a last one.
func nested(loud, hushed int, last string) []api.LowFunc {
	shows := block(answer(), show(zero))
	l := append(deep(loud), quiet(deep(0)[1]), fn("loud", 1, nil, 0, 0, shows), quiet(fn("hushed", 1, nil, 0, 0, shows)))
	l[1].Blocks[1].List = []api.Low{li(0, hushed), calls([]int{0}, "q", 0), imm(0, 0, "add", 1)}
	l[2].Name = "q"
	l[2].Blocks[1].List = []api.Low{calls(nil, last)}
	l[2].Blocks[2].List[1].Text = "q"
	return l
}
