package fold_test

import (
	"math"
	"math/rand"
	"slices"
	"testing"

	"ferrule/api"
	"ferrule/fold"
)

// P15.1.

func wantPlain(t *testing.T, what string, f api.Mir, want ...bool) {
	t.Helper()
	if got := fold.Plain(f); !slices.Equal(got, want) {
		t.Errorf("%s: %v, not %v", what, got, want)
	}
}

func TestPlain(t *testing.T) {
	const yes, no = true, false
	wantPlain(t, "no locals", starts(nil))
	wantPlain(t, "no word, one, several", starts([]int{0, 1, 2, 1, 512}), no, yes, no, yes, no)
	for _, c := range []struct {
		what  string
		plain bool
		steps []api.Step
	}{
		{"no steps", no, nil},
		{"no steps, a list", no, []api.Step{}},
		{"StHeld", yes, []api.Step{held()}},
		{"StHeld first", yes, []api.Step{held(), step(2), held(), times(3, 1)}},
		{"StHeld twice", yes, []api.Step{held(), held()}},
		{"StAdd first", no, []api.Step{step(0), held()}},
		{"StAdd", no, []api.Step{step(1)}},
		{"StIndex first", no, []api.Step{times(3, 0), held()}},
		{"StIndex", no, []api.Step{times(3, 1)}},
		{"another step first", no, []api.Step{{}, held()}},
		{"another one", no, []api.Step{{Kind: 4}}},
		{"one below 0", no, []api.Step{{Kind: -3}}},
	} {
		p := at(1, c.steps...)
		for what, in := range map[string]api.Instr{
			"load": load(0, p), "store": store(p, n(1)), "addr": addr(0, p), "drop": drop(u8, p), "to": move(0, p, at(2)), "from": move(0, at(2), p),
		} {
			wantPlain(t, what+" "+c.what, starts([]int{1, 1, 2, 1}, in), yes, c.plain, no, yes)
			behind := fn("f", []int{1, 1, 1, 1}, 2, 0, block(answer(), load(0, at(1, held())), store(at(1, held()), v(1))), block(jump(1), in))
			behind.Locals[2] = 3
			wantPlain(t, what+" where nothing comes to, "+c.what, behind, yes, c.plain, no, yes)
		}
		// A place that an operation does not use is none.
		for op := -1; op < 20; op++ {
			in := api.Instr{Op: op, P: p, Q: p, Args: []api.Operand{v(1)}, A: v(1), B: v(1), Dst: 1, Dsts: []int{1}}
			inP := op == api.OpLoad || op == api.OpStore || op == api.OpAddr || op == api.OpDrop || op == api.OpCopy
			wantPlain(t, c.what, starts([]int{1, 1}, in), yes, !inP || c.plain)
			in.P = at(0, held())
			wantPlain(t, "Q alone, "+c.what, starts([]int{1, 1}, in), yes, op != api.OpCopy || c.plain)
		}
	}
	wantPlain(t, "an index is no place", starts([]int{1, 1, 4}, load(0, at(2, times(1, 1)))), yes, yes, no)
	wantPlain(t, "what is let go is no place", starts([]int{1, 1}, give(0), take(0), empty(boxed(u8), 0)), yes, yes)
	wantPlain(t, "a place among others", starts([]int{1, 1, 1}, load(0, at(1, held())), load(0, at(1)), load(0, at(1, held())), load(0, at(2, held()))), yes, no, yes)
}

// Of functions that mir refuses it is told all the same.
func TestPlainOfOthers(t *testing.T) {
	wantPlain(t, "nothing", api.Mir{})
	wantPlain(t, "words", api.Mir{Locals: []int{-1, 1, math.MinInt, math.MaxInt, 1, 513, 1 << 32, 1<<32 + 1}}, false, true, false, false, true, false, false, false)
	places := []api.Place{at(-1), at(2), at(math.MaxInt), at(math.MinInt), at(7, step(1)), at(-2, held())}
	for _, p := range places {
		list := []api.Instr{load(9, p), store(p, v(-1)), move(-1, p, p), addr(math.MinInt, p), drop(api.Type{}, p), {Op: math.MinInt, P: p}, {Op: math.MaxInt, Q: p}}
		wantPlain(t, "places of no local", fn("", []int{1, 1}, 9, -1, block(api.Term{Kind: 9, To: 7}, list...), block(api.Term{}, load(0, at(1, times(-7, -1))))), true, false)
	}
	wantPlain(t, "no places", fn("main", []int{1}, 0, 0, api.Block{}, block(jump(-1), api.Instr{}, api.Instr{Op: 16}, api.Instr{Op: -1})), true)
	chance := rand.New(rand.NewSource(15))
	any := func() int {
		return []int{0, 1, 1, 2, 3, -1, 4, 5, math.MaxInt, math.MinInt, chance.Intn(20)}[chance.Intn(11)]
	}
	place := func() api.Place {
		p := api.Place{Local: any()}
		for range chance.Intn(4) {
			p.Steps = append(p.Steps, api.Step{Kind: []int{api.StHeld, api.StHeld, any()}[chance.Intn(3)], N: any(), Size: any()})
		}
		return p
	}
	seen := map[bool]int{}
	for range 5000 {
		f := api.Mir{Params: any(), Answers: any()}
		for range chance.Intn(6) {
			f.Locals = append(f.Locals, []int{1, 1, 1, any()}[chance.Intn(4)])
		}
		for range chance.Intn(4) {
			b := api.Block{Term: api.Term{Kind: any(), To: any(), Else: any(), A: v(any())}}
			for range chance.Intn(3) {
				b.List = append(b.List, api.Instr{Op: []int{any(), api.OpLoad + chance.Intn(4)}[chance.Intn(2)], Dst: any(), A: v(any()), P: place(), Q: place()})
			}
			f.Blocks = append(f.Blocks, b)
		}
		wantPlain(t, "by chance", f, plainly(f)...)
		for k, is := range fold.Plain(f) {
			if f.Locals[k] == 1 {
				seen[is]++
			}
		}
	}
	if seen[true] < 500 || seen[false] < 500 {
		t.Error(seen)
	}
}

// What is told is new memory, each time.
func TestPlainAgain(t *testing.T) {
	f := starts([]int{1, 1, 2}, load(0, at(1)))
	first := fold.Plain(f)
	first[0], first[1], first[2] = false, true, true
	wantPlain(t, "again", f, true, false, false)
}
