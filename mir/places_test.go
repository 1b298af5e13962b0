package mir

import (
	"testing"

	"ferrule/api"
	"ferrule/heap"
)

func TestPlaces(t *testing.T) {
	comes(t, "words on", exit(10, 11, 12, 13), nil, starts([]int{4, 1},
		store(at(0), n(10)), store(at(0, on(1)), n(11)), store(at(0, on(1), on(1)), n(12)), store(at(0, on(0), on(3)), n(13)),
		load(1, at(0)), show(v(1)), load(1, at(0, on(1))), show(v(1)), load(1, at(0, on(2))), show(v(1)), load(1, at(0, on(3))), show(v(1))))
	comes(t, "an index", exit(20, 21, 22, 23), nil, starts([]int{1, 6, 1},
		store(at(1, on(1)), n(20)), set(0, n(1)), store(at(1, times(0, 2)), n(21)), store(at(1, times(0, 2), times(0, 1)), n(22)), set(0, n(5)), store(at(1, times(0, 1)), n(23)),
		load(2, at(1, on(1))), show(v(2)), load(2, at(1, on(2))), show(v(2)), load(2, at(1, on(3))), show(v(2)), load(2, at(1, on(5))), show(v(2))))
	comes(t, "an index below 0", exit(30), nil, starts([]int{1, 6, 1},
		set(0, n(-1)), store(at(1, on(4), times(0, 2)), n(30)), load(2, at(1, on(2))), show(v(2))))
	comes(t, "an index that goes round", exit(40, 41), nil, starts([]int{1, 6, 1},
		set(0, n(1<<30)), store(at(1, times(0, 1)), n(40)), set(0, n(1<<29+1)), store(at(1, times(0, 2)), n(41)),
		load(2, at(1)), show(v(2)), load(2, at(1, on(2))), show(v(2))))
	comes(t, "a Size of 0", exit(50), nil, starts([]int{1, 1}, set(0, n(77)), store(at(1, times(0, 0)), n(50)), show(v(1))))
	comes(t, "an index by a place's own word", exit(2, 60), nil, starts([]int{1, 3},
		set(0, n(2)), store(at(1, times(0, 1)), n(60)), show(v(0)), load(0, at(1, times(0, 1))), show(v(0))))
}

func TestPlacesHeld(t *testing.T) {
	comes(t, "a local of this call", exit(5, 6, 6), nil, starts([]int{1, 1, 3},
		addr(0, at(2, on(1))), store(at(0, held()), n(5)), load(1, at(2, on(1))), show(v(1)),
		store(at(0, held(), on(1)), n(6)), load(1, at(2, on(2))), show(v(1)), load(1, at(0, held(), on(1))), show(v(1))))
	comes(t, "a scalar", exit(7, 7), nil, starts([]int{1, 1}, addr(0, at(1)), store(at(0, held()), n(7)), show(v(1)), load(0, at(0, held())), show(v(0))))
	comes(t, "itself", exit(1, 8), nil, starts([]int{1, 1, 1}, addr(0, at(0)), load(1, at(0, held(), held(), held())), bin(2, v(0), "xor", v(1)), bin(2, v(2), "sltu", n(1)), show(v(2)), store(at(0, held(), held()), n(8)), show(v(0))))
	comes(t, "a block", exit(heap.Base, 9, 0), nil, starts([]int{1, 1},
		alloc(0, 4), show(v(0)), store(at(0, held(), on(3)), n(9)), load(1, at(0, held(), on(3))), show(v(1)), load(1, at(0, held())), show(v(1))))
	comes(t, "of locals that lie in one another's words", exit(4, 5), nil, starts([]int{1, 2, 1, 1},
		addr(0, at(1)), addr(2, at(3)), store(at(0, held(), on(1)), v(2)), store(at(0, held(), on(1), held()), n(4)), show(v(3)), store(at(1, on(1), held()), n(5)), show(v(3))))
	comes(t, "locals of the calls around", exit(3, 12, 4), nil,
		starts([]int{2, 1, 1}, set(2, n(3)), addr(1, at(0, on(1))), calls(nil, "f", v(1)), load(1, at(0, on(1))), show(v(1)), show(n(4))),
		fn("f", []int{1, 1}, 1, 0, block(answer(), set(1, n(3)), show(v(1)), addr(1, at(0)), calls(nil, "g", v(1)))),
		fn("g", []int{1, 7}, 1, 0, block(answer(), store(at(0, held(), held()), n(12)))))
}

func TestPlacesCopied(t *testing.T) {
	fill := func(list ...api.Instr) []api.Instr {
		out := []api.Instr{}
		for k := range 5 {
			out = append(out, store(at(0, on(k)), n(k+1)))
		}
		return append(out, list...)
	}
	shows := func(list ...api.Instr) []api.Instr {
		for k := range 5 {
			list = append(list, load(1, at(0, on(k))), show(v(1)))
		}
		return list
	}
	for _, c := range []struct {
		what     string
		words    int
		to, from int
		want     []int
	}{
		{"none", 0, 0, 1, []int{1, 2, 3, 4, 5}}, {"one", 1, 0, 4, []int{5, 2, 3, 4, 5}}, {"onto itself", 5, 0, 0, []int{1, 2, 3, 4, 5}},
		{"onto words behind", 4, 1, 0, []int{1, 1, 2, 3, 4}}, {"onto words ahead", 4, 0, 1, []int{2, 3, 4, 5, 5}}, {"two", 2, 3, 0, []int{1, 2, 3, 1, 2}},
	} {
		comes(t, c.what, exit(c.want...), nil, starts([]int{5, 1, 1}, shows(fill(move(c.words, at(0, on(c.to)), at(0, on(c.from))))...)...))
	}
	comes(t, "as many as may be", exit(7, 8), nil, starts([]int{130, 1, 4 * api.MaxWords, 1}, alloc(1, 128),
		store(at(0, on(1)), n(7)), store(at(0, on(128)), n(8)), move(128, at(1, held()), at(0, on(1))), move(128, at(2, on(384)), at(1, held())),
		load(3, at(2, on(384))), show(v(3)), load(3, at(2, on(511))), show(v(3))))
	comes(t, "none from nowhere to nowhere", exit(1), nil, starts([]int{1, 0}, set(0, n(2)), move(0, at(0, held()), at(1)), addr(0, at(1, on(1000))), show(n(1))))
}

// trapsAt runs each way to use a word at a place, which each must be refused.
func trapsAt(t *testing.T, what string, locals []int, p api.Place, ahead ...api.Instr) {
	t.Helper()
	spare := len(locals)
	locals = append(append([]int{}, locals...), 1, 3)
	for _, in := range []api.Instr{load(spare, p), store(p, n(1)), move(1, p, at(spare+1)), move(1, at(spare+1), p), drop(boxed(ty(api.TyU8)), p),
		load(spare, api.Place{Local: p.Local, Steps: append(append([]api.Step{}, p.Steps...), held())}), addr(spare, api.Place{Local: p.Local, Steps: append(append([]api.Step{}, p.Steps...), held())})} {
		list := append(append([]api.Instr{}, ahead...), show(n(1)), in, show(n(2)))
		comes(t, what, trapped(1), nil, starts(locals, list...))
	}
	list := append(append([]api.Instr{}, ahead...), addr(spare, p), show(n(3)))
	comes(t, what+", not used", exit(3), nil, starts(locals, list...))
}

func TestPlacesRefused(t *testing.T) {
	for _, to := range []int{0, 4, 8, -4, 1 << 18, 1<<18 - 4, heap.Base + heap.Size, heap.Base + heap.Size - 4, 1 << 19, 1 << 20, 1 << 30, 1<<31 - 4, -1 << 31, 1, 2, 3, -1, 1<<18 + 1} {
		trapsAt(t, "a number", []int{1}, at(0, held()), set(0, n(to)))
	}
	for _, by := range []int{1, 2, 3, -1, -3} {
		trapsAt(t, "between two words", []int{1, 2}, at(0, held()), addr(0, at(1, on(1))), bin(0, v(0), "add", n(by)))
		trapsAt(t, "between two words of a block", []int{1}, at(0, held()), alloc(0, 16), bin(0, v(0), "add", n(16+by)))
	}
	trapsAt(t, "a local of no words", []int{0}, at(0))
	trapsAt(t, "just behind a local", []int{2}, at(0, on(2)))
	trapsAt(t, "just behind a local that another one follows", []int{2, 5}, at(0, on(2)))
	trapsAt(t, "far behind", []int{1}, at(0, on(1<<16)))
	trapsAt(t, "just ahead of a local", []int{1, 4}, at(1, times(0, 1)), set(0, n(-1)))
	trapsAt(t, "just ahead of main's first local", []int{4, 1}, at(0, times(1, 1)), set(1, n(-1)))
	trapsAt(t, "behind a block", []int{1}, at(0, held(), on(4)), alloc(0, 1))
	trapsAt(t, "in a block that is not in use", []int{1, 1}, at(0, held(), on(4)), alloc(0, 1), alloc(1, 1), free(v(1)))
	trapsAt(t, "in a block that was freed", []int{1}, at(0, held()), alloc(0, 1), free(v(0)))
	trapsAt(t, "ahead of the heap", []int{1, 1}, at(0, held(), times(1, 1)), alloc(0, 1), set(1, n(-1)))
	trapsAt(t, "a second step", []int{1, 1}, at(0, held(), held()), addr(0, at(1)))
	comes(t, "a copy whose last word is none", trapped(), nil, starts([]int{2, 3}, move(3, at(1), at(0))))
	comes(t, "a copy to a last word that is none", trapped(), nil, starts([]int{2, 3}, move(3, at(0), at(1))))
}

// TestPlacesOfCallsThatEnded hands on the address of a local, of a call that is under way or not any more.
func TestPlacesOfCallsThatEnded(t *testing.T) {
	comes(t, "ended", trapped(), nil, starts([]int{1, 1}, calls([]int{0}, "f"), load(1, at(0, held())), show(v(1))),
		fn("f", []int{1}, 0, 1, block(answer(v(0)), addr(0, at(0)))))
	comes(t, "ended, deeper", trapped(), nil, starts([]int{1, 1}, calls(nil, "g")),
		fn("g", []int{1}, 0, 0, block(answer(), calls([]int{0}, "f"), store(at(0, held()), n(1)))),
		fn("f", []int{5, 1}, 0, 1, block(answer(v(1)), addr(1, at(0, on(3))))))
	comes(t, "under way", exit(6), nil, starts([]int{1, 1}, addr(0, at(1)), calls(nil, "f", v(0)), show(v(1))),
		fn("f", []int{1}, 1, 0, block(answer(), store(at(0, held()), n(6)))))
}

func TestBlocks(t *testing.T) {
	comes(t, "addresses", exit(heap.Base, heap.Base+16, heap.Base, heap.Base+1024), nil, starts([]int{1, 1},
		alloc(0, 3), show(v(0)), alloc(1, 4), show(v(1)), free(v(0)), alloc(0, 1), show(v(0)), alloc(1, 5), show(v(1))))
	comes(t, "no words", exit(heap.Base, 1), nil, starts([]int{1}, alloc(0, 0), show(v(0)), free(v(0)), show(n(1))))
	comes(t, "freed again", trapped(1), nil, starts([]int{1}, alloc(0, 3), free(v(0)), show(n(1)), free(v(0))))
	comes(t, "freed, used again, freed again", exit(1), nil, starts([]int{1, 1}, alloc(0, 3), free(v(0)), alloc(1, 2), free(v(0)), show(n(1))))
	for _, to := range []int{0, -1, 4, heap.Base + 4, heap.Base + 1, heap.Base + 16, heap.Base - 16, heap.Base + heap.Size, -1 << 31} {
		comes(t, "what is no block in use", trapped(), nil, starts([]int{1}, alloc(0, 4), free(n(to))))
	}
	comes(t, "a number wider than a word", exit(1), nil, starts([]int{1}, alloc(0, 4), free(n(heap.Base+1<<32)), show(n(1))))
	comes(t, "a local's address", trapped(), nil, starts([]int{1, 1}, addr(0, at(1)), free(v(0))))
	comes(t, "a block of a call that ended", exit(5), nil, starts([]int{1, 1}, calls([]int{0}, "f"), load(1, at(0, held())), show(v(1))),
		fn("f", []int{1}, 0, 1, block(answer(v(0)), alloc(0, 1), store(at(0, held()), n(5)))))
}

// TestBlocksLast takes all blocks of each class, and one more.
func TestBlocksLast(t *testing.T) {
	for _, c := range []struct{ words, blocks int }{{0, 64}, {4, 64}, {5, 32}, {16, 32}, {17, 16}, {64, 16}, {65, 8}, {128, 8}} {
		var list []api.Instr
		for range c.blocks {
			list = append(list, alloc(0, c.words))
		}
		list = append(list, show(n(1)))
		comes(t, "as many as there are", exit(1), nil, starts([]int{1}, list...))
		comes(t, "one more", outcome(api.OutMemory, 0, 1), nil, starts([]int{1}, append(append([]api.Instr{}, list...), alloc(0, c.words), show(n(2)))...))
		comes(t, "one less", exit(1, 2), nil, starts([]int{1}, append(append([]api.Instr{}, list...), free(v(0)), alloc(0, c.words), show(n(2)))...))
	}
}
