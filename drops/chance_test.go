package drops_test

import (
	"math/rand"
	"slices"
	"testing"

	"ferrule/api"
	"ferrule/borrow"
	"ferrule/build"
	"ferrule/drops"
	"ferrule/mir"
)

// Programs and functions made by chance, elaborated: P14.1 to P14.3 of each.

// inAll runs functions and what is told of them, with fuel enough for the second ones where it was for the first ones, and with less.
func inAll(t *testing.T, seed int64, items []api.Item, l, out []api.Mir, input []int, fuel int) api.Outcome {
	t.Helper()
	want, before := mir.Run(items, l, input, fuel)
	enough := fuel
	if want.Kind != api.OutFuel {
		enough = 10000 + 1000*before // what was let go by one step may need very many
	}
	got, many := mir.Run(items, out, input, enough)
	if want.Kind != api.OutFuel && !alike(got, want) || want.Kind == api.OutFuel && !begins(want.Print, got.Print) && !begins(got.Print, want.Print) {
		t.Fatalf("seed %d: %v, not %v", seed, got, want)
	}
	chance := rand.New(rand.NewSource(seed))
	for range 3 {
		less, _ := mir.Run(items, out, input, chance.Intn(many+1))
		fewer, _ := mir.Run(items, l, input, chance.Intn(before+1))
		if !begins(less.Print, got.Print) || !begins(fewer.Print, want.Print) {
			t.Fatalf("seed %d with less fuel: %v, %v, but then %v", seed, less, fewer, want)
		}
	}
	return want
}

func wantSeen(t *testing.T, seen map[[2]int]int, least int, kinds ...[2]int) {
	t.Helper()
	for _, how := range kinds {
		if seen[how] < least {
			t.Errorf("%v only %d times: %v", how, seen[how], seen)
		}
	}
}

func TestProgramsByChance(t *testing.T) {
	seen, flags := map[[2]int]int{}, 0
	for seed := range int64(1500) {
		l := typed(t, program(seed, 10+int(seed)%50))
		list, e := build.Build(l)
		if e != api.OK {
			t.Fatal(seed)
		}
		out := elaborated(t, l, list)
		flags += wantNoMore(t, l, list, out)
		if _, e := borrow.Check(l); e != api.OK {
			continue
		}
		chance := rand.New(rand.NewSource(seed))
		input := []int{chance.Intn(5), chance.Intn(300) - 100, chance.Int()}[:chance.Intn(4)]
		got := inAll(t, seed, l, list, out, input, 20000)
		seen[[2]int{got.Kind, got.Code}]++
	}
	wantSeen(t, seen, 10, [2]int{api.OutFuel, 0}, [2]int{api.OutExit, 0}, [2]int{api.OutExit, 101}, [2]int{api.OutDepth, 0}, [2]int{api.OutMemory, 0})
	if seen[[2]int{api.OutTrap, 0}] > 0 || flags < 300 {
		t.Errorf("%v, %d flags", seen, flags)
	}
}

// padded is functions with as many locals as others have, so that all addresses are the same.
func padded(l, like []api.Mir) []api.Mir {
	out := slices.Clone(l)
	for k := range out {
		out[k].Locals = like[k].Locals
	}
	return out
}

func TestFunctionsByChance(t *testing.T) {
	seen, flags := map[[2]int]int{}, 0
	input := []int{3, 0, 1, -1, 1 << 33, 2, 7}
	for seed := range int64(6000) {
		l := mixed(seed)
		out := elaborated(t, mixedItems(), l)
		flags += wantNoMore(t, mixedItems(), l, out)
		got := inAll(t, seed, mixedItems(), padded(l, out), out, input, 1500)
		seen[[2]int{got.Kind, got.Code}]++
	}
	wantSeen(t, seen, 30, [2]int{api.OutFuel, 0}, [2]int{api.OutExit, 0}, [2]int{api.OutExit, 101}, [2]int{api.OutDepth, 0}, [2]int{api.OutMemory, 0}, [2]int{api.OutTrap, 0})
	if flags < 500 {
		t.Errorf("%d flags", flags)
	}
}

// Graphs made by chance, whose operations say of some locals what they hold.
func TestGraphsByChance(t *testing.T) {
	flags := 0
	for seed := range int64(3000) {
		chance := rand.New(rand.NewSource(seed))
		locals := 1 + chance.Intn(5)
		changes := 4
		if seed%30 == 0 {
			locals, changes = 60+chance.Intn(80), 60
		}
		f := graphByChance(chance, 1+chance.Intn(9), locals, changes)
		l := []api.Mir{f}
		out := elaborated(t, nil, l)
		flags += wantNoMore(t, nil, l, out)
		want, _ := mir.Run(nil, padded(l, out), []int{1, 0, 1, 1, 0, 0, 1}, 300)
		if got, _ := mir.Run(nil, out, []int{1, 0, 1, 1, 0, 0, 1}, 300*100); want.Kind != api.OutFuel && !alike(got, want) {
			t.Fatalf("seed %d: %v, not %v", seed, got, want)
		}
	}
	if flags < 1000 {
		t.Errorf("%d flags", flags)
	}
}

// graphByChance is a main of so many blocks, that go on anywhere, and so many locals that may hold a Box; a local more is read.
func graphByChance(chance *rand.Rand, blocks, locals, changes int) api.Mir {
	f := fn("main", []int{}, 0, 0)
	for range locals + 1 {
		f.Locals = append(f.Locals, 1)
	}
	for range blocks {
		var list []api.Instr
		for range chance.Intn(changes) {
			k := chance.Intn(locals)
			switch chance.Intn(5) {
			case 0, 1:
				list = append(list, empty(boxed(u8), k), alloc(k, 1), give(k), show(v(k)))
			case 2:
				list = append(list, take(k))
			case 3:
				list = append(list, empty(boxed(u8), k))
			case 4:
				list = append(list, empty(u8, k), show(n(k)))
			}
		}
		f.Blocks = append(f.Blocks, endByChance(chance, list, blocks, locals))
	}
	return f
}

func endByChance(chance *rand.Rand, list []api.Instr, blocks, read int) api.Block {
	switch chance.Intn(6) {
	case 0, 1:
		return block(jump(chance.Intn(blocks)), list...)
	case 2:
		return block(answer(), list...)
	case 3:
		return block(branch(n(chance.Intn(2)), chance.Intn(blocks), chance.Intn(blocks)), list...)
	}
	return block(branch(v(read), chance.Intn(blocks), chance.Intn(blocks)), append(list, api.Instr{Op: api.OpRead, Dst: read})...)
}

// A call tells the same again.
func TestAgain(t *testing.T) {
	for seed := range int64(300) {
		l := mixed(seed)
		first, _ := drops.Elaborate(mixedItems(), l)
		second, _ := drops.Elaborate(mixedItems(), l)
		wantSame(t, first, second)
	}
}
