package mir

import (
	"math"
	"testing"

	"ferrule/api"
)

// loop prints the numbers from its first input on down to 1, then fails if its second input is not 0.
func loop() []api.Mir {
	return []api.Mir{fn("main", []int{1, 1}, 0, 0,
		block(jump(1), read(0), read(1)),
		block(branch(v(0), 2, 3)),
		block(jump(1), show(v(0)), bin(0, v(0), "sub", n(1))),
		block(branch(v(1), 4, 5)),
		block(fail(), show(n(-9))),
		block(answer(), show(n(9))),
	)}
}

func TestRunLoop(t *testing.T) {
	for _, c := range []struct {
		input []int
		want  api.Outcome
		steps int
	}{
		{[]int{3, 0}, exit(3, 2, 1, 9), 3 + 3*4 + 1 + 1 + 2},
		{[]int{2, 1, 7}, failed(2, 1, -9), 3 + 2*4 + 1 + 1 + 2},
		{nil, exit(9), 3 + 1 + 1 + 2},
		{[]int{0, -1}, failed(-9), 3 + 1 + 1 + 2},
		{[]int{1 << 32, 1 << 40}, exit(9), 3 + 1 + 1 + 2},
		{[]int{1<<32 + 1, math.MinInt}, exit(1, 9), 3 + 4 + 1 + 1 + 2},
	} {
		if got, steps := Run(nil, loop(), c.input, plenty); !alike(got, c.want) || steps != c.steps {
			t.Errorf("%v: %+v, %d, not %+v, %d", c.input, got, steps, c.want, c.steps)
		}
	}
}

// TestRunFuel runs with each fuel that is not enough, with just enough, and with more.
func TestRunFuel(t *testing.T) {
	for _, input := range [][]int{{3, 0}, {2, 1}} {
		all, steps := Run(nil, loop(), input, plenty)
		for fuel := -2; fuel < steps; fuel++ {
			got, n := Run(nil, loop(), input, fuel)
			if got.Kind != api.OutFuel || got.Code != 0 || n != max(fuel, 0) || len(got.Print) > len(all.Print) {
				t.Errorf("fuel %d: %+v, %d", fuel, got, n)
			}
			for k, v := range got.Print {
				if all.Print[k] != v {
					t.Errorf("fuel %d: %+v", fuel, got)
				}
			}
		}
		for _, fuel := range []int{steps, steps + 1, 2 * steps, math.MaxInt} {
			if got, n := Run(nil, loop(), input, fuel); !alike(got, all) || n != steps {
				t.Errorf("fuel %d: %+v, %d", fuel, got, n)
			}
		}
	}
	endless := []api.Mir{fn("main", nil, 0, 0, block(jump(0)))}
	for _, fuel := range []int{math.MinInt, -1, 0, 1, 2, 100000} {
		if got, n := Run(nil, endless, nil, fuel); !alike(got, api.Outcome{}) || n != max(fuel, 0) {
			t.Errorf("fuel %d: %+v, %d", fuel, got, n)
		}
	}
	got, steps := Run(nil, []api.Mir{fn("main", nil, 0, 0, block(jump(0), show(n(4))))}, nil, 5)
	if !alike(got, outcome(api.OutFuel, 0, 4, 4, 4)) || steps != 5 {
		t.Error(got, steps)
	}
}

// TestRunStepsThatEnd counts the step that a run ends with, whatever it ends with, and one less is not enough for it.
func TestRunStepsThatEnd(t *testing.T) {
	for _, c := range []struct {
		what  string
		kind  int
		steps int
		l     []api.Mir
	}{
		{"an exit", api.OutExit, 2, []api.Mir{starts([]int{1}, set(0, n(1)))}},
		{"a panic", api.OutExit, 2, []api.Mir{fn("main", []int{1}, 0, 0, block(fail(), set(0, n(1))))}},
		{"a load of nothing", api.OutTrap, 2, []api.Mir{starts([]int{1}, set(0, n(0)), load(0, at(0, held())))}},
		{"a block that is none", api.OutTrap, 1, []api.Mir{starts([]int{1}, free(n(0)))}},
		{"a drop of nothing", api.OutTrap, 1, []api.Mir{starts([]int{1}, drop(boxed(ty(api.TyU8)), at(0)))}},
		{"a full heap", api.OutMemory, 2*8 + 8 + 1, []api.Mir{fn("main", []int{1}, 0, 0, block(jump(0), alloc(0, 128), set(0, n(0))))}},
		{"calls too deep", api.OutDepth, api.MaxDepth, []api.Mir{starts(nil, calls(nil, "main"))}},
	} {
		got, steps := Run(nil, c.l, nil, plenty)
		if got.Kind != c.kind || steps != c.steps {
			t.Errorf("%s: %+v, %d", c.what, got, steps)
		}
		if again, n := Run(nil, c.l, nil, steps); !alike(got, again) || n != steps {
			t.Errorf("%s: %+v, %d with just enough fuel", c.what, again, n)
		}
		if less, n := Run(nil, c.l, nil, steps-1); less.Kind != api.OutFuel || less.Code != 0 || n != steps-1 {
			t.Errorf("%s: %+v, %d with one less", c.what, less, n)
		}
	}
}

func TestRunStuck(t *testing.T) {
	good := block(answer(), show(n(1)))
	for what, l := range map[string][]api.Mir{
		"no function":          nil,
		"an empty list":        {},
		"no main":              {fn("Main", nil, 0, 0, good), fn("", nil, 0, 0, good)},
		"a main with params":   {fn("main", []int{1}, 1, 0, good)},
		"a param of no words":  {fn("main", []int{0}, 1, 0, good)},
		"a main with answers":  {fn("main", nil, 0, 1, block(answer(n(1))))},
		"a main that is twice": {fn("main", nil, 0, 0, good), fn("main", nil, 0, 0, good)},
		"a main without block": {fn("main", nil, 0, 0)},
		"another that is bad":  {fn("main", nil, 0, 0, good), fn("f", nil, 0, 0, block(jump(1)))},
		"a block nobody needs": {fn("main", nil, 0, 0, good, block(answer(), set(0, n(1))))},
	} {
		for _, fuel := range []int{-1, 0, 1, plenty} {
			if got, steps := Run(nil, l, nil, fuel); !alike(got, outcome(api.OutStuck, 0)) || steps != 0 {
				t.Errorf("%s: %+v, %d", what, got, steps)
			}
		}
	}
	if got, _ := Run(nil, []api.Mir{fn("f", nil, 0, 0, good), fn("main", []int{1}, 0, 0, good)}, nil, plenty); !alike(got, exit(1)) {
		t.Error("a main that is the second one:", got)
	}
}

// TestRunWords prints words, with a sign and from 0 on, of numbers wider than words too.
func TestRunWords(t *testing.T) {
	for _, c := range []struct{ n, word, from0 int }{
		{0, 0, 0}, {7, 7, 7}, {-1, -1, 1<<32 - 1}, {1<<31 - 1, 1<<31 - 1, 1<<31 - 1}, {1 << 31, -1 << 31, 1 << 31}, {-1 << 31, -1 << 31, 1 << 31},
		{1<<32 + 5, 5, 5}, {1<<32 - 2, -2, 1<<32 - 2}, {-1<<32 - 2, -2, 1<<32 - 2}, {math.MaxInt, -1, 1<<32 - 1}, {math.MinInt, 0, 0},
	} {
		want := exit(c.word, c.from0, c.word, c.from0, c.word, c.word, c.word, c.word)
		l := []api.Mir{
			starts([]int{1, 1, 1}, show(n(c.n)), showFrom0(n(c.n)), set(0, n(c.n)), show(v(0)), showFrom0(v(0)), read(1), show(v(1)),
				store(at(2), n(c.n)), show(v(2)), calls([]int{2}, "same", n(c.n)), show(v(2)), calls([]int{2}, "gives"), show(v(2))),
			fn("same", []int{1}, 1, 1, block(answer(v(0)))),
			fn("gives", nil, 0, 1, block(answer(n(c.n)))),
		}
		if got, _ := Run(nil, l, []int{c.n}, plenty); !alike(got, want) {
			t.Errorf("%d: %+v, not %+v", c.n, got, want)
		}
	}
	for _, N := range []int{0, 2, -1, math.MaxInt} {
		comes(t, "OpPrint with another N", exit(-1), nil, starts(nil, api.Instr{Op: api.OpPrint, A: n(-1), N: N}))
	}
}

func TestRunReads(t *testing.T) {
	l := []api.Mir{starts([]int{1, 1}, set(1, n(5)), read(0), show(v(0)), read(0), show(v(0)), read(1), show(v(1)), read(1), show(v(1)))}
	for _, c := range []struct{ input, print []int }{
		{nil, []int{0, 0, 0, 0}}, {[]int{}, []int{0, 0, 0, 0}}, {[]int{4}, []int{4, 0, 0, 0}}, {[]int{1, 2, 3, 4, 5}, []int{1, 2, 3, 4}}, {[]int{0, 6}, []int{0, 6, 0, 0}},
	} {
		if got, _ := Run(nil, l, c.input, plenty); !alike(got, exit(c.print...)) {
			t.Errorf("%v: %+v", c.input, got)
		}
	}
	spare := []int{8, 9, 10}
	if got, _ := Run(nil, l, spare[:1], plenty); !alike(got, exit(8, 0, 0, 0)) {
		t.Error("what lies behind the input's end was read:", got)
	}
}

// TestRunBins runs each operation as an instruction, with operands of both kinds, and one operand twice.
func TestRunBins(t *testing.T) {
	for _, op := range names() {
		for _, a := range []int{-7, 0, 3, 1 << 31, 1<<32 + 9} {
			for _, b := range []int{-2, 0, 5, 33, 1<<40 + 1} {
				want, _ := Do(op, a, b)
				twice, _ := Do(op, a, a)
				comes(t, op, exit(want, want, want, want, twice, twice, twice), nil, starts([]int{1, 1, 1},
					bin(2, n(a), op, n(b)), show(v(2)), set(0, n(a)), set(1, n(b)),
					bin(2, v(0), op, n(b)), show(v(2)), bin(2, n(a), op, v(1)), show(v(2)), bin(2, v(0), op, v(1)), show(v(2)),
					bin(2, v(0), op, v(0)), show(v(2)), bin(2, n(a), op, n(a)), show(v(2)), bin(0, v(0), op, v(0)), show(v(0))))
			}
		}
	}
	comes(t, "a number that is a scalar's", exit(5), nil, starts([]int{1, 1}, set(0, n(4)), bin(1, v(0), "add", n(1)), show(v(1))))
	comes(t, "a scalar that is a number's", exit(9), nil, starts([]int{1, 1}, set(1, n(8)), bin(1, n(1), "add", v(1)), show(v(1))))
}
