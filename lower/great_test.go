package lower_test

import (
	"fmt"
	"slices"
	"strconv"
	"strings"
	"testing"
	"time"

	"ferrule/api"
	"ferrule/fold"
	"ferrule/low"
	"ferrule/lower"
	"ferrule/mir"
)

// Great functions are lowered in time, and low.Check takes them: registers are at most 2^16, however many locals there are.

const mostRegs = 1 << 16

// wantGreat asks what a great main comes to.
func wantGreat(t *testing.T, what string, input []int, print []int, l ...api.Mir) []api.LowFunc {
	t.Helper()
	begun := time.Now()
	out, e := lower.Lower(l)
	if e != api.OK || low.Check(out) != api.OK {
		t.Fatalf("%s: %d, %d", what, int(e), int(low.Check(out)))
	}
	if took := time.Since(begun); took > 20*time.Second {
		t.Errorf("%s: %v", what, took)
	}
	if got, _ := low.Run(out, input, plenty); !alike(got, exit(print...)) {
		t.Errorf("%s: %d, %d printed", what, got.Kind, len(got.Print))
	}
	if got, _ := mir.Run(nil, l, input, plenty); !alike(got, exit(print...)) {
		t.Errorf("%s, before: %d, %d printed", what, got.Kind, len(got.Print))
	}
	return out
}

func TestManyLocals(t *testing.T) {
	const many = 100_000
	// Each word is made of the one ahead of it.
	line := starts(scalars(many+1), set(0, n(1)))
	for k := range many {
		line.Blocks[0].List = append(line.Blocks[0].List, bin(k+1, v(k), "add", n(1)))
	}
	line.Blocks[0].List = append(line.Blocks[0].List, show(v(many)))
	wantGreat(t, "a line", nil, []int{many + 1}, line)
	// The same, each in a block of its own.
	blocks := fn("main", scalars(many+1), 0, 0)
	for k := range many {
		blocks.Blocks = append(blocks.Blocks, block(jump(k+1), bin(k+1, v(k), "add", n(1))))
	}
	blocks.Blocks = append(blocks.Blocks, block(answer(), show(v(many))))
	wantGreat(t, "a line of blocks", nil, []int{many}, blocks)
	// From the last block to the first one.
	back := fn("main", scalars(many+1), 0, 0, block(jump(many)), block(answer(), show(v(many))))
	for k := range many {
		back.Blocks = append(back.Blocks, block(jump(many-k), bin(many-k, v(many-k-1), "add", n(1))))
	}
	for k := range many {
		back.Blocks[k+2] = block(jump(k+1), bin(many-k, v(many-k-1), "add", n(1)))
	}
	back.Blocks[0].Term.To = many + 1
	wantGreat(t, "a line back", nil, []int{many}, back)
	// Half of the registers are needed from beginning to end, the others for a while; the first ones are 0 at first.
	half := fn("main", scalars(many), 0, 0, block(jump(1)), block(answer()))
	first, last := &half.Blocks[0].List, &half.Blocks[1].List
	var print []int
	for k := range many / 2 {
		if k >= 10 {
			*first = append(*first, set(k, n(3*k)))
		}
		print = append(print, 3*k*min(k/10, 1))
		*last = append(*last, show(v(k)))
	}
	for k := many / 2; k < many; k++ {
		*first = append(*first, bin(k, v(k-many/2), "add", n(1)), bin(k, v(k), "sub", n(1)), set(k-many/2, v(k)))
	}
	wantGreat(t, "half of them", nil, print, half)
	// Locals that nobody uses, and such that nobody reads.
	unused := starts(scalars(many), show(n(4)))
	if out := wantGreat(t, "unused", nil, []int{4}, unused); out[0].Regs > 10 {
		t.Error(out[0].Regs)
	}
	for k := range many {
		unused.Blocks[0].List = append(unused.Blocks[0].List, read(k))
	}
	wantGreat(t, "set", nil, []int{4}, unused)
}

// More words at one time than there are registers: no program has so many, but something is told, and low.Check takes it.
func TestTooManyAtOneTime(t *testing.T) {
	const many = mostRegs + 5000
	f := fn("main", scalars(many), 0, 0, block(jump(1)), block(answer()))
	for k := range many {
		f.Blocks[0].List = append(f.Blocks[0].List, read(k))
		f.Blocks[1].List = append(f.Blocks[1].List, show(v(k)))
	}
	out := lowered(t, f)
	if out[0].Regs != mostRegs {
		t.Error(out[0].Regs)
	}
	with := fn("f", slices.Concat(f.Locals[:4], []int{3}, f.Locals[5:]), 5, 3, f.Blocks[0], block(answer(v(1), v(2), n(3)), f.Blocks[1].List...))
	with.Blocks[0].List[4], with.Blocks[1].List[4] = read(3), show(v(3))
	lowered(t, with)
	// Just as many as there are.
	f = fn("main", scalars(mostRegs), 0, 0, block(jump(1)), block(answer()))
	var input []int
	for k := range mostRegs {
		f.Blocks[0].List = append(f.Blocks[0].List, read(k))
		f.Blocks[1].List = append(f.Blocks[1].List, show(v(k)))
		input = append(input, k+1)
	}
	wantGreat(t, "just as many", input, input, f)
	// One more is needed, but not at that time.
	f.Blocks[1].List = append(f.Blocks[1].List, show(n(5)))
	wantGreat(t, "one more", input, append(slices.Clone(input), 5), f)
}

// padded is functions with very many locals more, which a block uses that nothing comes to: so registers must be shared.
func padded(l []api.Mir) []api.Mir {
	const more = mostRegs + api.MaxPass
	l = slices.Clone(l)
	for k := range l {
		first := len(l[k].Locals)
		l[k].Locals = slices.Concat(l[k].Locals, scalars(more))
		pad := block(fail())
		for local := first; local < first+more; local += api.MaxPass {
			pad.List = append(pad.List, calls([]int{local, local + 1, local + 2, local + 3, local + 4, local + 5, local + 6, local + 7}, "padding"))
		}
		l[k].Blocks = append(slices.Clone(l[k].Blocks), pad)
	}
	return append(l, fn("padding", nil, 0, api.MaxPass, block(fail())))
}

// Shared registers are never needed at one time: runs come to the same.
func TestSharedByChance(t *testing.T) {
	seen, before, behind := map[[2]int]int{}, 0, 0
	input := []int{1, 2, 3}
	same := func(items []api.Item, l []api.Mir, out []api.LowFunc, fuel int) {
		if fault := fault(l, out[:len(l)]); fault != "" {
			t.Fatal(fault)
		}
		got, _ := low.Run(out, input, 40*fuel)
		want, _ := mir.Run(items, l, input, fuel)
		if want.Kind != api.OutFuel && !alike(got, want) || !agree(got, want) {
			t.Fatalf("%.300s, not %.300s", fmt.Sprint(got), fmt.Sprint(want))
		}
		seen[[2]int{want.Kind, want.Code}]++
	}
	shared := func(items []api.Item, l []api.Mir, fuel int, pads bool) {
		out := lowered(t, l...)
		for k := range out {
			before += out[k].Regs
			lower.Share(&out[k])
			behind += out[k].Regs
		}
		same(items, l, out, fuel)
		if !pads {
			return
		}
		out = lowered(t, padded(l)...)
		for _, f := range out {
			if f.Regs > 1000 {
				t.Errorf("%d registers", f.Regs)
			}
		}
		for k := range l { // what no run comes to is taken away, so that it is l's own again
			out[k].Blocks = out[k].Blocks[:len(out[k].Blocks)-1]
		}
		same(items, l, out[:len(l)], fuel)
	}
	for seed := range int64(2500) {
		l := mixed(seed)
		if seed%2 == 1 {
			l, _ = fold.Fold(l)
		}
		shared(nil, l, 300, seed < 16)
	}
	for seed := range int64(400) {
		items, fine := typed(t, program(seed, 30))
		if l, _ := folded(t, items); fine && isSmall(t, l) {
			shared(items, l, 4000, seed < 4)
		}
	}
	wantSeen(t, seen, 50, [2]int{api.OutFuel, 0}, [2]int{api.OutExit, 0}, [2]int{api.OutExit, 101}, [2]int{api.OutTrap, 0})
	if behind > before/2 {
		t.Errorf("of %d registers %d are left", before, behind)
	}
}

// Programs with very many operations, as long as a text may be.
func TestGreatPrograms(t *testing.T) {
	const most = api.MaxText - 200
	for _, sign := range []string{"+a", "/a"} {
		text := "fn main() { let a = read(); print(a" + strings.Repeat(sign, most/len(sign)) + "); }"
		items, _ := typed(t, text)
		l, before := folded(t, items)
		for _, l := range [][]api.Mir{l, before} {
			out, e := lower.Lower(l)
			if e != api.OK || low.Check(out) != api.OK {
				t.Fatalf("%s: %d, %d", sign, int(e), int(low.Check(out)))
			}
			for _, a := range []int{0, 1, -1, 3} {
				got, _ := low.Run(out, []int{a}, plenty)
				if want, _ := mir.Run(items, l, []int{a}, plenty); !alike(got, want) {
					t.Errorf("%s of %d: %v, not %v", sign, a, got, want)
				}
			}
		}
	}
	text := "fn main() { let a = read();" + strings.Repeat(strings.Repeat("-", 50)+"a;", most/52) + " print(a); }"
	items, _ := typed(t, text)
	l, _ := folded(t, items)
	for _, f := range lowered(t, l...) {
		if f.Regs > mostRegs {
			t.Error(f.Regs)
		}
	}
}

func TestManyBlocks(t *testing.T) {
	const many = 100_000
	// One local for all comparisons, which the last block needs of the one ahead of it.
	f := fn("main", scalars(3), 0, 0)
	for k := range many {
		f.Blocks = append(f.Blocks, block(branch(v(2), k+1, k+1), bin(0, v(0), "add", n(1)), bin(2, v(0), "slt", n(7))))
	}
	f.Blocks = append(f.Blocks, block(answer(), show(v(2)), show(v(0))))
	out := wantGreat(t, "one local", nil, []int{0, many}, f)
	if out[0].Blocks[5].Term.Text != "lt" || out[0].Blocks[many-1].Term.Text != "ne" {
		t.Error(out[0].Blocks[5], out[0].Blocks[many-1])
	}
	// A local for each, which the next block needs, too.
	each := fn("main", scalars(many+1), 0, 0)
	for k := range many {
		each.Blocks = append(each.Blocks, block(branch(v(k+1), k+1, many), bin(k+1, v(k), "sltu", n(2))))
	}
	each.Blocks = append(each.Blocks, block(answer(), show(v(many))))
	wantGreat(t, "a local for each", nil, []int{1}, each)
	// All go back to the first block.
	back := fn("main", []int{1, 1, 2}, 0, 0)
	for k := range many {
		back.Blocks = append(back.Blocks, block(branch(v(1), k+1, 0), store(at(2), n(k)), bin(1, v(0), "xor", n(k)), bin(0, v(0), "add", n(1))))
	}
	back.Blocks = append(back.Blocks, block(answer(), show(v(0))))
	wantAnything(t, "all go back", back)
}

func wantAnything(t *testing.T, what string, f api.Mir) {
	t.Helper()
	runs(t, what, nil, []api.Mir{f}, nil, 1000)
}

func TestManyFunctions(t *testing.T) {
	const many = 50_000
	l := []api.Mir{starts(scalars(1), set(0, n(5)), calls([]int{0}, "f"+strconv.Itoa(many-1), v(0)), show(v(0)))}
	for k := range many {
		l = append(l, fn("f"+strconv.Itoa(k), scalars(1), 1, 1, block(answer(v(0)), bin(0, v(0), "add", n(1)))))
	}
	wantGreat(t, "many functions", nil, []int{6}, l...)
	l[many/2].Locals = append(l[many/2].Locals, 501)
	wantRefused(t, "one that is too big", api.ErrFrame, l...)
	l[many].Blocks = nil
	wantRefused(t, "one that is not formed", api.ErrForm, l...)
}
