package fold_test

import (
	"slices"
	"testing"

	"ferrule/api"
	"ferrule/fold"
	"ferrule/mir"
)

// Great functions are folded in time; P15.2 to P15.4 of them by what is told.

const many = 50_000

// scalars are so many locals of one word.
func scalars(count int) []int { return slices.Repeat([]int{1}, count) }

func wantGreat(t *testing.T, what string, f api.Mir, blocks, instrs int, print ...int) {
	t.Helper()
	out, e := fold.Fold([]api.Mir{f})
	if e != api.OK || mir.Check(out) != api.OK {
		t.Fatalf("%s: %d", what, int(e))
	}
	if got := size(out) - len(out[0].Blocks); len(out[0].Blocks) != blocks || got != instrs {
		t.Errorf("%s: %d blocks, %d instructions", what, len(out[0].Blocks), got)
	}
	again, _ := fold.Fold(out)
	if !slices.Equal(amounts(out[0]), amounts(again[0])) {
		t.Errorf("%s: not the same again", what)
	}
	want, before := mir.Run(nil, []api.Mir{f}, []int{1}, plenty)
	got, behind := mir.Run(nil, out, []int{1}, plenty)
	if !alike(got, want) || behind > before || !slices.Equal(got.Print, print) {
		t.Errorf("%s: %d by %d steps, not %d by %d", what, got.Kind, behind, want.Kind, before)
	}
}

func TestGreatLines(t *testing.T) {
	// Blocks one behind the other, from the first one on and from the last one on, with nothing in them and with something.
	for _, list := range [][]api.Instr{nil, {show(n(1))}} {
		on, back := main(), main(block(jump(many-1), list...))
		for k := range many - 1 {
			on.Blocks = append(on.Blocks, block(jump(k+1), list...))
		}
		on.Blocks = append(on.Blocks, block(answer(), list...))
		back.Blocks = append(back.Blocks, block(answer(), list...))
		for k := range many - 2 {
			back.Blocks = append(back.Blocks, block(jump(k+1), list...))
		}
		print := slices.Repeat([]int{1}, many*len(list))
		wantGreat(t, "on", on, 1, many*len(list), print...)
		wantGreat(t, "back", back, 1, many*len(list), print...)
	}
	// Each asks what the one ahead of it says, past a way that nobody goes.
	ask := main(block(jump(1), set(0, n(0))))
	for k := range many {
		at := 1 + 4*k
		ask.Blocks = append(ask.Blocks, block(branch(v(1), at+1, at+2), bin(0, v(0), "add", n(1)), bin(1, v(0), "slt", n(many/2))), block(jump(at+3)), block(jump(at+3), set(2, v(0))), block(jump(at+4)))
	}
	ask.Blocks = append(ask.Blocks, block(answer(), show(v(0)), show(v(2))))
	wantGreat(t, "asked", ask, 1, 2, many, many)
	// Ways that all go back to the beginning of a long way through nothing.
	ways := main(block(branch(v(0), 1, 2), read(0)))
	ways.Blocks = append(ways.Blocks, block(jump(many+2)), block(answer()))
	for k := range many {
		ways.Blocks = append(ways.Blocks, block(branch(v(0), 2+k, many+3), show(v(0)), read(0)))
	}
	for k := range many {
		ways.Blocks = append(ways.Blocks, block(jump(min(many+4+k, 2*many+2))))
	}
	ways.Blocks[len(ways.Blocks)-1] = block(answer(), show(n(5)))
	wantGreat(t, "ways back", ways, many+3, 2*many+2, 1, 5)
}

func TestGreatCircles(t *testing.T) {
	// A circle of blocks that do nothing, that many go to.
	circle := main(block(branch(v(0), 1, many+1), read(0)))
	for k := range many {
		circle.Blocks = append(circle.Blocks, block(jump(1+(k+7)%many)))
	}
	for k := range many {
		circle.Blocks = append(circle.Blocks, block(branch(v(0), 1+k, many+1+min(k+1, many-1)), read(0)))
	}
	wantGreat(t, "circle", circle, many+2, many+1)
	// Words that are set in a circle, each by the one behind it: nobody uses the first one.
	words := fn("main", scalars(many+1), 0, 0, block(branch(v(many), 0, 1)), block(answer()))
	for k := range many - 1 {
		words.Blocks[0].List = append(words.Blocks[0].List, set(k, v(k+1)))
	}
	words.Blocks[0].List = append(words.Blocks[0].List, set(many-1, n(3)), read(many))
	wantGreat(t, "words in a circle", words, 2, 1)
}

func TestGreatNests(t *testing.T) {
	// Ifs in one another that have nothing to do: each asks for a word that nobody uses then.
	nest := fn("main", scalars(many+1), 0, 0, block(jump(1), read(many)))
	for k := range many {
		nest.Blocks = append(nest.Blocks, block(branch(v(k), k+2, many+1), bin(k, v(many), "slt", n(k))))
	}
	nest.Blocks = append(nest.Blocks, block(answer()))
	wantGreat(t, "nest", nest, 1, 1)
	// Words of words, and addresses of addresses, that nobody uses.
	words := starts(scalars(many+1), read(0))
	for k := range many {
		words.Blocks[0].List = append(words.Blocks[0].List, bin(k+1, v(k), "add", v(max(0, k-1))))
	}
	wantGreat(t, "words of words", words, 1, 1)
	// Words that are all known.
	known := starts(scalars(many+1), set(0, n(1)))
	for k := range many {
		known.Blocks[0].List = append(known.Blocks[0].List, bin(k+1, v(k), "add", v(0)), bin(0, v(0), "xor", n(0)))
	}
	known.Blocks[0].List = append(known.Blocks[0].List, show(v(many)))
	wantGreat(t, "known words", known, 1, 1, many+1)
	// Addresses of addresses, of which nobody uses the last one: each local becomes plain behind the next one.
	addresses := starts(scalars(many+1), set(0, n(1)))
	for k := range many {
		addresses.Blocks[0].List = append(addresses.Blocks[0].List, addr(k+1, at(k)), set(k, v(k)))
	}
	addresses.Blocks[0].List = append(addresses.Blocks[0].List, show(v(0)))
	wantGreat(t, "addresses of addresses", addresses, 1, 1, 1)
}
