package fold_test

import (
	"math/rand"
	"testing"

	"ferrule/api"
	"ferrule/borrow"
	"ferrule/fold"
	"ferrule/mir"
)

// Functions and programs made by chance, folded: P15.1 to P15.4 of each.

func wantSeen(t *testing.T, seen map[[2]int]int, least int, kinds ...[2]int) {
	t.Helper()
	for _, how := range kinds {
		if seen[how] < least {
			t.Errorf("%v only %d times: %v", how, seen[how], seen)
		}
	}
}

// size is how many instructions and ends functions have.
func size(l []api.Mir) int {
	all := 0
	for _, f := range l {
		for _, b := range f.Blocks {
			all += 1 + len(b.List)
		}
	}
	return all
}

func TestFunctionsByChance(t *testing.T) {
	seen, before, behind := map[[2]int]int{}, 0, 0
	input := []int{3, 0, 1, -1, 1 << 33, 2, 7}
	for seed := range int64(6000) {
		l := mixed(seed)
		for _, f := range l {
			wantPlain(t, "by chance", f, plainly(f)...)
		}
		out := folded(t, l)
		got := runs(t, nil, l, out, input[seed%3:], 700, some)
		seen[[2]int{got.Kind, got.Code}]++
		before, behind = before+size(l), behind+size(out)
	}
	wantSeen(t, seen, 50, [2]int{api.OutFuel, 0}, [2]int{api.OutExit, 0}, [2]int{api.OutExit, 101}, [2]int{api.OutDepth, 0}, [2]int{api.OutTrap, 0})
	if behind > before*3/4 || behind < before/4 {
		t.Errorf("of %d steps %d are left", before, behind)
	}
}

// Functions that say what locals hold have the same form, and the same runs.
func TestHoldersByChance(t *testing.T) {
	for seed := range int64(1500) {
		l := mixedBy(&mixer{Rand: rand.New(rand.NewSource(seed)), holds: true})
		runs(t, nil, l, folded(t, l), []int{1, 0, 2}, 300, some)
	}
}

// Graphs made by chance, of blocks that have little or nothing to do: all fuels.
func TestGraphsByChance(t *testing.T) {
	blocks := map[int]int{}
	for seed := range int64(4000) {
		f := graphByChance(rand.New(rand.NewSource(seed)), 1+int(seed)%12)
		l := []api.Mir{f}
		out := folded(t, l)
		blocks[len(out[0].Blocks)]++
		for _, input := range [][]int{nil, {1, 0, 1, 1, 0, 0, 1}} {
			runs(t, nil, l, out, input, 60, every)
		}
	}
	for many := 1; many <= 6; many++ {
		if blocks[many] < 20 {
			t.Errorf("%d blocks only %d times", many, blocks[many])
		}
	}
}

// graphByChance is a main of so many blocks, that go on anywhere; its first local is read, the others are numbers.
func graphByChance(chance *rand.Rand, blocks int) api.Mir {
	f := fn("main", []int{1, 1, 1, 1}, 0, 0)
	operand := func() api.Operand {
		return []api.Operand{v(0), v(1), v(2), v(3), n(0), n(1), n(2)}[chance.Intn(7)]
	}
	for range blocks {
		var list []api.Instr
		for range []int{0, 0, 0, 1, 2, 3}[chance.Intn(6)] {
			list = append(list, []api.Instr{
				read(0), show(operand()), set(1+chance.Intn(3), operand()), set(1+chance.Intn(3), operand()), bin(1+chance.Intn(3), operand(), []string{"add", "sub", "slt", "and"}[chance.Intn(4)], operand()),
				addr(3, at(2)), addr(1+chance.Intn(3), at(1+chance.Intn(3), held())),
			}[chance.Intn(5+max(0, chance.Intn(12)-9))])
		}
		end := []api.Term{jump(chance.Intn(blocks)), jump(chance.Intn(blocks)), branch(operand(), chance.Intn(blocks), chance.Intn(blocks)), branch(v(chance.Intn(4)), chance.Intn(blocks), chance.Intn(blocks)), answer(), fail()}
		f.Blocks = append(f.Blocks, block(end[chance.Intn(6)], list...))
	}
	return f
}

func TestProgramsByChance(t *testing.T) {
	seen, before, behind := map[[2]int]int{}, 0, 0
	for seed := range int64(1000) {
		items := typed(t, program(seed, 10+int(seed)%50))
		l := elaborated(t, items)
		out := folded(t, l)
		before, behind = before+size(l), behind+size(out)
		if _, e := borrow.Check(items); e != api.OK {
			continue
		}
		chance := rand.New(rand.NewSource(seed))
		input := []int{chance.Intn(5), chance.Intn(300) - 100, chance.Int()}[:chance.Intn(4)]
		got := runs(t, items, l, out, input, 20000, some)
		seen[[2]int{got.Kind, got.Code}]++
	}
	wantSeen(t, seen, 5, [2]int{api.OutFuel, 0}, [2]int{api.OutExit, 0}, [2]int{api.OutExit, 101}, [2]int{api.OutDepth, 0}, [2]int{api.OutMemory, 0})
	if seen[[2]int{api.OutTrap, 0}] > 0 || behind >= before {
		t.Errorf("%v, of %d steps %d are left", seen, before, behind)
	}
}

// Functions that are changed by chance: mir refuses some, and those are refused; the others are folded.
func TestChangedByChance(t *testing.T) {
	refused := 0
	for seed := range int64(3000) {
		chance := rand.New(rand.NewSource(seed))
		l := mixed(seed)
		for range 1 + chance.Intn(3) {
			change(chance, &l[chance.Intn(len(l))])
		}
		for _, f := range l {
			wantPlain(t, "changed", f, plainly(f)...)
		}
		if mir.Check(l) == api.OK {
			folded(t, l)
			continue
		}
		refused++
		if out, e := fold.Fold(l); e != api.ErrForm || len(out) != 0 {
			t.Fatalf("seed %d: %d, %d functions", seed, int(e), len(out))
		}
	}
	if refused < 500 || refused > 2500 {
		t.Errorf("%d are refused", refused)
	}
}

// change changes something in a function.
func change(chance *rand.Rand, f *api.Mir) {
	any := []int{-1, 0, 1, 2, 3, 8, 9, 16, 512, 513, 1 << 16, 1<<16 + 1, 1 << 40, -1 << 63}[chance.Intn(14)]
	b := &f.Blocks[chance.Intn(len(f.Blocks))]
	switch chance.Intn(9) {
	case 0:
		f.Locals[chance.Intn(len(f.Locals))] = any
	case 1:
		f.Params = any
	case 2:
		f.Answers = any
	case 3:
		b.Term.Kind = any
	case 4:
		b.Term.To, b.Term.A = any, v(any)
	}
	if len(b.List) == 0 {
		return
	}
	in := &b.List[chance.Intn(len(b.List))]
	switch chance.Intn(9) {
	case 0:
		in.Op = any
	case 1:
		in.Dst = any
	case 2:
		in.A = v(any)
	case 3:
		in.P.Local, in.Q.Local = any, any
	case 4:
		in.P.Steps = append(in.P.Steps, api.Step{Kind: any, N: any, Size: any})
	case 5:
		in.N, in.Text = any, "odd"
	case 6:
		in.B = v(any)
	}
}
