package frame_test

import (
	"fmt"
	"testing"

	"ferrule/api"
	"ferrule/asm"
	"ferrule/frame"
)

// P26.3: each kind of a block's end, and each comparison.

func questions() []string { return []string{"eq", "ne", "lt", "ge", "ltu", "geu"} }

// asking is a main that asks something of two words, and prints 1, or 2, where it goes to; which of its blocks is the one that it goes to, and which the other one: 1 is the next one.
func asking(a int, text string, b, to, otherwise int, list ...api.Low) api.LowFunc {
	blocks := []api.LowBlock{block(branch(a, text, b, to, otherwise), list...)}
	for k := 1; k <= 3; k++ {
		blocks = append(blocks, block(answer(), li(0, k), show(0)))
	}
	return fn("main", 3, nil, 0, 0, blocks...)
}

func TestEachComparison(t *testing.T) {
	words := []int{0, 1, -1, 2, -2, 1<<31 - 1, -1 << 31, 100, -100}
	ways := [][2]int{{1, 2}, {2, 1}, {2, 3}, {3, 2}, {1, 1}, {2, 2}}
	for _, text := range questions() {
		for _, a := range words {
			for _, b := range words {
				way := ways[(a+b+200)%6&7%6]
				hold(t, fmt.Sprint(a, text, b), asking(1, text, 2, way[0], way[1], li(1, a), li(2, b)))
			}
			hold(t, fmt.Sprint(a, text, "0"), asking(1, text, zero, 1, 2, li(1, a)), fn("other", 0, nil, 0, 0, block(answer())))
			hold(t, fmt.Sprint("0", text, a), asking(zero, text, 1, 2, 1, li(1, a)))
			hold(t, fmt.Sprint(a, text, a), asking(1, text, 1, 2, 3, li(1, a)))
		}
		hold(t, "0 "+text+" 0", asking(zero, text, zero, 2, 1))
	}
}

// Both words of a comparison in registers and in slots, and each way to go on.
func TestComparisonsInAllPlaces(t *testing.T) {
	t.Parallel()
	for _, text := range questions() {
		for _, way := range [][2]int{{1, 2}, {2, 1}, {2, 3}, {3, 2}, {1, 1}, {3, 3}} {
			for _, set := range [][2]int{{5, 5}, {-1, 1}} {
				met := map[string]bool{}
				main := asking(1, text, 2, way[0], way[1], li(1, set[0]), li(2, set[1]))
				for turn := range 3 {
					for _, many := range regs(0, 13, 14, 15, 16) {
						f := crowd{many, turn > 0, turn}.of(main)
						met[inSlots(t, f, many+1, many+2)] = true
						hold(t, fmt.Sprint(text, way, set, many), f)
					}
				}
				if len(met) != 4 {
					t.Fatal(text, met)
				}
			}
		}
	}
}

// counted is a main whose block 0 is gone to again, so often as it reads; end is how its last block ends.
func counted(end api.LowTerm) api.LowFunc {
	return fn("main", 3, nil, 0, 1,
		block(branch(0, "eq", zero, 1, 2), lw(1, within, 0), show(1)),
		block(jump(2), read(0)),
		block(branch(0, "lt", 1, 3, 0), imm(1, 1, "add", 1), sw(within, 0, 1)),
		block(end, show(0)),
	)
}

func TestBlocksInCircles(t *testing.T) {
	t.Parallel()
	for _, end := range []api.LowTerm{answer(), fail()} {
		for _, n := range []int{0, 1, 2, 5, 11} {
			holdCrowded(t, "back to the block 0", []int{n}, counted(end))
		}
	}
	itself := fn("main", 2, nil, 0, 0,
		block(jump(1), read(0)),
		block(branch(0, "ge", 1, 1, 2), imm(1, 1, "add", 1), show(1)),
		block(branch(0, "lt", 1, 3, 2), imm(1, 1, "sub", 0), imm(1, 1, "add", -1), imm(0, 0, "add", -2), show(1)),
		block(answer(), show(0)),
	)
	itself.Blocks[2].List = itself.Blocks[2].List[1:]
	for n := range 6 {
		holdCrowded(t, "a block that goes to itself", []int{n}, itself)
	}
}

// Blocks without an end: they print as low.Run does, as long as there is fuel.
func TestWithoutEnd(t *testing.T) {
	for k, f := range []api.LowFunc{
		fn("main", 0, nil, 0, 0, block(jump(0))),
		fn("main", 1, nil, 0, 0, block(jump(0), imm(0, 0, "add", 1), show(0))),
		fn("main", 1, nil, 0, 0, block(branch(0, "eq", 0, 0, 0), imm(0, 0, "add", 1), show(0))),
		fn("main", 1, nil, 0, 0, block(branch(0, "ne", 0, 1, 0), show(0)), block(answer())),
		fn("main", 1, nil, 0, 0, block(branch(0, "eq", 0, 0, 1), show(0)), block(answer())),
		fn("main", 1, nil, 0, 0, block(jump(2)), block(jump(0), imm(0, 0, "add", 1)), block(jump(1), show(0))),
		fn("main", 1, nil, 0, 0, block(jump(1)), block(jump(2)), block(jump(3), show(0)), block(jump(1), imm(0, 0, "add", 3))),
	} {
		if o := holdWith(t, fmt.Sprint("circle ", k), 2000, nil, f); o.Kind != api.OutFuel || k > 0 && len(o.Print) == 0 {
			t.Fatal(k, told(o))
		}
	}
}

// A call ends by many of its blocks, with other answers by each.
func TestManyReturns(t *testing.T) {
	var blocks []api.LowBlock
	for k := range 20 {
		blocks = append(blocks, block(branch(0, "eq", zero, 20+k, k+1), imm(0, 0, "add", -1)))
	}
	for k := range 21 {
		blocks = append(blocks, block(answer(1, 0, zero), imm(1, 2, "add", 10*k)))
	}
	f := fn("f", 3, regs(0, 2), 3, 0, blocks...)
	var list []api.Low
	for k := range 24 {
		list = append(list, li(0, k+1), calls(regs(0, 1, 2), "f", 0, 0), show(0), show(1), show(2))
	}
	holdCrowded(t, "many returns", nil, starts(3, 0, list...), f)
}

func TestPanics(t *testing.T) {
	comes(t, "at once", failed(), fn("main", 0, nil, 0, 0, block(fail())))
	comes(t, "behind a print", failed(5), fn("main", 1, nil, 0, 9, block(fail(), li(0, 5), show(0))))
	f := fn("f", 2, regs(0), 1, 3, block(branch(0, "eq", zero, 1, 2), show(0)), block(fail(), li(1, 77), show(1)), block(answer(0), imm(0, 0, "add", -1), calls(regs(0), "f", 0)))
	comes(t, "within calls", failed(5, 4, 3, 2, 1, 0, 77), starts(1, 0, li(0, 5), calls(regs(0), "f", 0), show(0)), f)
	holdCrowded(t, "within calls", nil, starts(1, 0, li(0, 40), calls(regs(0), "f", 0), show(0)), f)
	holdCrowded(t, "within calls that are quiet", nil, starts(1, 0, li(0, 9), calls(regs(0), "f", 0), show(0)), quiet(f))
}

// far is a main with so many instructions between where it goes from and where it goes to, forth and back.
func far(many int) api.LowFunc {
	var list []api.Low
	for range many {
		list = append(list, imm(0, 0, "add", 1))
	}
	return fn("main", 3, nil, 0, 0,
		block(jump(1), li(2, 3)),
		block(branch(1, "lt", 2, 3, 5), show(1)),
		block(jump(1), list...),
		block(branch(0, "ge", zero, 4, 2), imm(1, 1, "add", 1), show(0)),
		block(jump(2), imm(0, 0, "add", 5)),
		block(answer(), show(0)),
	)
}

// Branches reach 4096 bytes, jumps 2^20: asm writes those that go farther in another way.
func TestNearAndFar(t *testing.T) {
	for _, many := range []int{0, 1, 500, 1000, 1010, 1011, 1012, 1013, 1014, 1015, 1016, 1017, 1018, 1019, 1020, 1021, 1022, 1023, 1024, 1025, 1030, 1100, 3000, 16000} {
		hold(t, fmt.Sprint("far: ", many), far(many))
	}
	deep := fn("f", 2, regs(0), 1, 0, block(branch(0, "eq", zero, 2, 1)), block(answer(0), imm(0, 0, "add", -1), calls(regs(0), "f", 0)), block(answer(0)))
	for range 1500 {
		deep.Blocks[1].List = append(deep.Blocks[1].List, imm(0, 0, "add", 1))
	}
	hold(t, "calls, and where too many are under way, far off", starts(1, 0, li(0, 30), calls(regs(0), "f", 0), show(0), calls(regs(0), "f", 0)), deep)
	hold(t, "the same, with one of each kind", starts(1, 0, li(0, 30), calls(regs(0), "f", 0), show(0), calls(regs(0), "f", 0)), fn("q", 0, nil, 0, 0, block(answer(), calls(nil, "main"))), quiet(deep))
}

// Lines are told of functions that are too big for the machine's code, too: asm is who refuses them.
func TestTooBigForTheCode(t *testing.T) {
	for many, want := range map[int]api.Errno{16000: api.OK, 16400: api.ErrImage, 70000: api.ErrImage} {
		a, e := frame.Lines([]api.LowFunc{far(many)})
		if e != api.OK {
			t.Fatal(many, int(e))
		}
		if _, e := asm.Assemble(a); e != want {
			t.Fatal(many, int(e))
		}
	}
}
