package low_test

import (
	"math"
	"testing"

	"ferrule/api"
	"ferrule/heap"
	"ferrule/low"
)

func TestFrames(t *testing.T) {
	comes(t, "a frame at first", exit(0, 0), starts(1, 2, lw(0, frame, 0), show(0), lw(0, frame, 4), show(0)))
	comes(t, "words in a frame", exit(1, 2), starts(2, 2, li(0, 1), li(1, 2), sw(frame, 0, 0), sw(frame, 4, 1), lw(0, frame, 0), show(0), lw(0, frame, 4), show(0)))
	comes(t, "a store of 0", exit(0), starts(1, 1, li(0, 5), sw(frame, 0, 0), sw(frame, 0, zero), lw(0, frame, 0), show(0)))
	comes(t, "a frame's address in a register", exit(7, 7, 8), starts(3, 3, imm(0, frame, "add", 4), li(1, 7), sw(0, 0, 1), lw(2, frame, 4), show(2), sw(0, -4, 1), lw(2, frame, 0), show(2),
		li(1, 8), sw(0, 4, 1), imm(0, 0, "add", 4), lw(2, 0, 0), show(2)))
	comes(t, "a frame's address is a multiple of 4, and stays", exit(0, 0), starts(2, 1, imm(0, frame, "and", 3), show(0), imm(0, frame, "xor", 0), imm(1, frame, "or", 0), bin(0, 0, "xor", 1), show(0)))
	comes(t, "a frame's address by numbers", exit(1, 0), starts(2, 1, imm(0, frame, "sltu", -1), show(0), imm(0, frame, "add", 5), imm(1, frame, "add", 5), bin(0, 0, "sub", 1), show(0)))
	comes(t, "a load onto its own address", exit(9), starts(2, 2, imm(0, frame, "add", 4), li(1, 9), sw(0, 0, 1), lw(0, 0, 0), show(0)))
	comes(t, "an address stored at itself", exit(0), starts(2, 1, imm(0, frame, "add", 0), sw(0, 0, 0), lw(1, 0, 0), bin(1, 1, "sub", 0), show(1)))
}

// TestFramesOfCalls: each call has a frame of its own, and those under way can be used by whoever has their addresses.
func TestFramesOfCalls(t *testing.T) {
	show1 := []api.Low{lw(0, frame, 0), show(0), imm(0, 0, "add", 1), sw(frame, 0, 0)}
	comes(t, "a frame is 0 at first each time", exit(0, 0, 0), starts(0, 0, calls(nil, "f"), calls(nil, "f"), calls(nil, "f")), fn("f", 1, nil, 0, 1, block(answer(), show1...)))
	comes(t, "a caller's frame", exit(5, 6), starts(2, 1, li(1, 5), sw(frame, 0, 1), imm(0, frame, "add", 0), calls(nil, "f", 0), lw(1, frame, 0), show(1)),
		fn("f", 2, []int{0}, 0, 1, block(answer(), lw(1, 0, 0), show(1), imm(1, 1, "add", 1), sw(0, 0, 1))))
	comes(t, "a callee's frame lies apart", exit(5, 0), starts(2, 2, li(1, 5), sw(frame, 0, 1), calls(nil, "f"), lw(1, frame, 0), show(1), lw(1, frame, 4), show(1)),
		fn("f", 1, nil, 0, 2, block(answer(), li(0, 9), sw(frame, 0, 0), sw(frame, 4, 0))))
	// Each call of f stores n in its frame, calls itself with its own frame's address, and adds to the one of its caller.
	comes(t, "frames of one function side by side", exit(1045), starts(3, 1, li(0, 9), imm(1, frame, "add", 0), li(2, 1000), sw(frame, 0, 2), calls(nil, "f", 0, 1), lw(0, frame, 0), show(0)),
		fn("f", 4, []int{0, 1}, 0, 2, block(branch(0, "eq", zero, 2, 1), sw(frame, 4, 0)),
			block(jump(2), imm(2, 0, "add", -1), imm(3, frame, "add", 4), calls(nil, "f", 2, 3)),
			block(answer(), lw(2, frame, 4), lw(3, 1, 0), bin(3, 3, "add", 2), sw(1, 0, 3))))
	comes(t, "a frame whose function has answered", trapped(), starts(1, 4, calls([]int{0}, "f"), lw(0, 0, 0)), fn("f", 1, nil, 1, 4, block(answer(0), imm(0, frame, "add", 0))))
	comes(t, "a store there", trapped(), starts(1, 4, calls([]int{0}, "f"), sw(0, 0, zero)), fn("f", 1, nil, 1, 4, block(answer(0), imm(0, frame, "add", 12))))
	comes(t, "a great frame whose function has answered", trapped(), starts(1, 0, calls([]int{0}, "f"), lw(0, 0, 0)), fn("f", 1, nil, 1, 1<<16, block(answer(0), imm(0, frame, "add", 0))))
	comes(t, "a frame of no words", trapped(), starts(1, 0, lw(0, frame, 0)))
	comes(t, "a frame of no words within a call", trapped(), starts(1, 1, calls(nil, "f")), fn("f", 1, nil, 0, 0, block(answer(), lw(0, frame, 0))))
	comes(t, "a frame of no words around a call", trapped(), starts(1, 0, imm(0, frame, "add", 0), calls(nil, "f", 0)), fn("f", 1, []int{0}, 0, 1, block(answer(), lw(0, 0, 0))))
	comes(t, "just ahead of a call's frame, and behind its caller's", trapped(), starts(0, 8, calls(nil, "f")), fn("f", 1, nil, 0, 8, block(answer(), lw(0, frame, -4))))
}

// TestFrameEnds uses each word around frames of several sizes, and addresses between them.
func TestFrameEnds(t *testing.T) {
	for _, words := range []int{1, 2, 3, 500, 511} {
		for bytes := -12; bytes < 4*words+12 && bytes < 2048; bytes++ {
			for _, in := range []api.Low{lw(0, frame, bytes), sw(frame, bytes, 0)} {
				want := trapped(0)
				if bytes >= 0 && bytes < 4*words && bytes%4 == 0 {
					want = exit(0, 0)
				}
				comes(t, "around a frame", want, starts(1, words, show(0), in, show(0)))
			}
		}
	}
	for _, words := range []int{512, 1 << 16} {
		for off := -12; off < 12; off++ {
			want := trapped()
			if off < 0 && off%4 == 0 {
				want = exit(5)
			}
			comes(t, "at a great frame's end", want, starts(4, words, imm(0, frame, "add", 0), li(1, 4*words), bin(0, 0, "add", 1), li(2, 5), sw(0, off, 2), lw(3, 0, off), show(3)))
		}
	}
	for _, far := range []int{1 << 31, 1 << 30, -1 << 30, 1 << 29} {
		comes(t, "far from a frame", trapped(), starts(2, 4, imm(0, frame, "add", 0), li(1, far), bin(0, 0, "add", 1), lw(0, 0, 0)))
	}
	comes(t, "round all words to a frame again", exit(0), starts(2, 4, imm(0, frame, "add", 0), li(1, 1<<31), bin(0, 0, "add", 1), bin(0, 0, "add", 1), lw(0, 0, 12), show(0)))
}

// TestGreatFrames has the greatest frames that there may be under way, as many as there may be, and uses their ends.
func TestGreatFrames(t *testing.T) {
	main := starts(2, 1<<16, li(0, 391), imm(1, frame, "add", 0), sw(frame, 0, 0), calls(nil, "f", 0, 1), lw(1, frame, 0), show(1))
	f := quiet(fn("f", 6, []int{0, 1}, 0, 1<<16,
		block(branch(0, "eq", 2, 2, 1), li(2, 1), sw(frame, 0, 0), li(3, 4*(1<<16-1)), imm(4, frame, "add", 0), bin(4, 4, "add", 3), lw(5, 4, 0), bin(5, 5, "add", 0), sw(4, 0, 5)),
		block(jump(2), imm(3, 0, "add", -1), imm(4, frame, "add", 0), calls(nil, "f", 3, 4), lw(5, frame, 0), bin(5, 5, "xor", 0)),
		// Behind its own call each caller's first word is one more.
		block(answer(), lw(3, 1, 0), imm(3, 3, "add", 1), sw(1, 0, 3))))
	comes(t, "great frames", exit(392), main, f)
}

func TestBlocks(t *testing.T) {
	comes(t, "the first blocks", exit(heap.Base, heap.Base+16, heap.Base+1024), starts(1, 0, alloc(0, 3), show(0), alloc(0, 0), show(0), alloc(0, 5), show(0)))
	comes(t, "a block that is used again", exit(heap.Base, heap.Base, heap.Base), starts(1, 0, alloc(0, 1), show(0), free(0), alloc(0, 4), show(0), free(0), alloc(0, 2), show(0)))
	comes(t, "words in a block", exit(5, 6), starts(2, 0, alloc(0, 2), li(1, 5), sw(0, 0, 1), li(1, 6), sw(0, 4, 1), lw(1, 0, 0), show(1), lw(1, 0, 4), show(1)))
	comes(t, "a block and its neighbour", exit(5, 6), starts(3, 0, alloc(0, 4), alloc(1, 4), li(2, 5), sw(0, 12, 2), li(2, 6), sw(1, 0, 2), lw(2, 1, -4), show(2), lw(2, 0, 16), show(2)))
	comes(t, "a block that was made by a call that answered", exit(7), starts(2, 0, calls([]int{0}, "f"), lw(1, 0, 0), show(1)), fn("f", 2, nil, 1, 0, block(answer(0), alloc(0, 1), li(1, 7), sw(0, 0, 1))))
	comes(t, "a frame's address in a block", exit(9), starts(3, 1, alloc(0, 1), imm(1, frame, "add", 0), sw(0, 0, 1), calls(nil, "f", 0), lw(2, frame, 0), show(2)), fn("f", 2, []int{0}, 0, 1, block(answer(), lw(0, 0, 0), li(1, 9), sw(0, 0, 1))))
	comes(t, "a block that was let go", trapped(), starts(1, 0, alloc(0, 1), free(0), lw(0, 0, 0)))
	comes(t, "a store into it", trapped(), starts(1, 0, alloc(0, 1), free(0), sw(0, 0, 0)))
	comes(t, "a block let go twice", trapped(), starts(1, 0, alloc(0, 1), free(0), free(0)))
	comes(t, "the midst of a block let go", trapped(), starts(1, 0, alloc(0, 4), imm(0, 0, "add", 4), free(0)))
	comes(t, "a byte behind a block's beginning let go", trapped(), starts(1, 0, alloc(0, 4), imm(0, 0, "add", 1), free(0)))
	comes(t, "a block of nobody let go", trapped(), starts(1, 0, alloc(0, 4), imm(0, 0, "add", 16), free(0)))
	comes(t, "a frame let go", trapped(), starts(1, 4, imm(0, frame, "add", 0), free(0)))
	comes(t, "0 let go", trapped(), starts(1, 4, alloc(0, 0), free(zero)))
	for _, at := range []int{0, 4, -4, heap.Base, heap.Base - 4, heap.Base + heap.Size, math.MinInt32, math.MaxInt32 - 3, 1 << 17} {
		comes(t, "a word of nobody", trapped(), starts(2, 1, li(0, at), lw(1, 0, 0)))
		comes(t, "a store to nobody", trapped(), starts(2, 1, li(0, at), sw(0, 0, 1)))
		comes(t, "nobody's block let go", trapped(), starts(2, 1, li(0, at), free(0)))
	}
	comes(t, "a word at the address 0", trapped(), starts(1, 1, lw(0, zero, 0)))
	comes(t, "a store at the address 4", trapped(), starts(1, 1, sw(zero, 4, 0)))
}

// classes are the heap's: blocks, and words of each.
var classes = []struct{ blocks, words int }{{64, 4}, {32, 16}, {16, 64}, {8, 128}}

// TestBlockEnds uses each word around blocks of each class, and addresses between them.
func TestBlockEnds(t *testing.T) {
	for _, c := range classes {
		for bytes := -12; bytes < 4*c.words+12; bytes++ {
			want := trapped(0)
			if bytes >= 0 && bytes < 4*c.words && bytes%4 == 0 {
				want = exit(0, 0)
			}
			comes(t, "a load around a block", want, starts(2, 0, alloc(0, c.words), show(1), lw(1, 0, bytes), show(1)))
			comes(t, "a store around a block", want, starts(2, 0, alloc(0, c.words), show(1), sw(0, bytes, 1), show(1)))
		}
	}
}

// TestFullClasses takes all blocks of a class, and one more; those of the others are still there.
func TestFullClasses(t *testing.T) {
	fills := func(words, times int, behind ...api.Low) api.LowFunc {
		return fn("main", 4, nil, 0, 0, block(jump(1), li(0, times)), block(branch(0, "ne", zero, 2, 3)), block(jump(1), alloc(1, words), imm(0, 0, "add", -1)), block(answer(), append(behind, show(1))...))
	}
	start := heap.Base
	for k, c := range classes {
		last := start + 4*c.words*(c.blocks-1)
		comes(t, "a full class", exit(last), fills(c.words, c.blocks))
		comes(t, "one more", outcome(api.OutMemory, 0), fills(c.words, c.blocks+1))
		comes(t, "one more of less words", outcome(api.OutMemory, 0), fills(c.words, c.blocks, alloc(1, c.words-1)))
		comes(t, "the last one again", exit(last), fills(c.words, c.blocks, free(1), alloc(1, c.words)))
		if next := (k + 1) % len(classes); next > 0 {
			comes(t, "one of the next class", exit(last+4*c.words), fills(c.words, c.blocks, alloc(1, c.words+1)))
		}
		start = last + 4*c.words
	}
	l := []api.LowFunc{fills(4, 65)}
	if _, n := low.Run(l, nil, plenty); n != 2+64*4+2 {
		t.Errorf("%d steps to a block too many", n)
	}
}
