package lower_test

import (
	"fmt"
	"testing"

	"ferrule/api"
)

// P18.2 of copies: of each number of words, between places that are apart, the same, or lie over one another.

// copied is a main whose local 0 has so many words with numbers in them, and whose locals 1 and 2 point to its first word and to a block with other numbers, as far as that goes; it copies, and prints all words.
func copied(room int, list ...api.Instr) api.Mir {
	f := fn("main", []int{room, 1, 1, 1, 1}, 0, 0)
	fill := block(jump(1), addr(1, at(0)), alloc(2, min(room, 128)))
	for k := range room {
		fill.List = append(fill.List, store(at(0, step(k)), n(1000+k)))
		if k < 128 {
			fill.List = append(fill.List, store(at(2, held(), step(k)), n(2000+k)))
		}
	}
	tell := block(branch(v(4), 2, 3), load(4, at(0, times(3, 1))), show(v(4)), bin(3, v(3), "add", n(1)), bin(4, v(3), "slt", n(room)))
	f.Blocks = []api.Block{fill, block(jump(2), append(list, set(3, n(0)))...), tell, block(jump(4), set(3, n(0))), tell, block(answer())}
	f.Blocks[4] = block(branch(v(4), 4, 5), load(4, at(2, held(), times(3, 1))), show(v(4)), bin(3, v(3), "add", n(1)), bin(4, v(3), "slt", n(min(room, 128))))
	return f
}

// wantCopied asks for all words behind a copy within the first local, or between it and the block: from and to are words on; 2000 on: in the block.
func wantCopied(t *testing.T, what string, room, words, to, from int, list ...api.Instr) {
	t.Helper()
	held := make([]int, 3000)
	for k := range room {
		held[k] = 1000 + k
		if k < 128 {
			held[2000+k] = 2000 + k
		}
	}
	copy(held[to:to+words], append([]int{}, held[from:from+words]...))
	comes(t, fmt.Sprint(what, ", ", words, " from ", from, " to ", to), exit(append(held[:room:room], held[2000:2000+min(room, 128)]...)...), copied(room, list...))
}

func TestCopies(t *testing.T) {
	for words := range 30 {
		const room = 70
		for _, to := range []int{0, 1, 3, 35} {
			for _, from := range []int{0, 2, 4, 38} {
				wantCopied(t, "in the frame", room, words, to, from, move(words, at(0, step(to)), at(0, step(from))))
				wantCopied(t, "by one address", room, words, to, from, move(words, at(1, held(), step(to)), at(1, held(), step(from))))
				wantCopied(t, "into the block", room, words, 2000+to, from, move(words, at(2, held(), step(to)), at(0, step(from))))
				wantCopied(t, "out of the block", room, words, to, 2000+from, move(words, at(1, held(), step(to)), at(2, held(), step(from))))
				// What an address says is not known ahead.
				wantCopied(t, "to where an address says", room, words, to, from, move(words, at(1, held(), step(to)), at(0, step(from))))
				wantCopied(t, "from where an address says", room, words, to, from, move(words, at(0, step(to)), at(1, held(), step(from))))
				wantCopied(t, "by indexes", room, words, to, from, set(3, n(to)), set(4, n(from)), move(words, at(0, times(3, 1)), at(0, times(4, 1))))
			}
		}
	}
}

// Copies over themselves, by each number of words between both, up and down.
func TestCopiesOver(t *testing.T) {
	for _, words := range []int{1, 2, 3, 8, 9, 12, 13, 31, 64, 128} {
		const room = 400
		for apart := -words - 1; apart <= words+1; apart += 1 + words/20 {
			to, from := 140+apart, 140
			wantCopied(t, "known", room, words, to, from, move(words, at(0, step(to)), at(0, step(from))))
			wantCopied(t, "not known", room, words, to, from, set(3, n(to)), move(words, at(0, times(3, 1)), at(1, held(), step(from))))
			wantCopied(t, "by addresses", room, words, to, from, addr(3, at(0, step(to))), addr(4, at(0, step(from))), move(words, at(3, held()), at(4, held())))
			wantCopied(t, "by one address", room, words, to, from, addr(4, at(0, step(from))), addr(3, at(0, step(to))), set(4, v(3)), bin(4, v(4), "sub", n(4*apart)), move(words, at(3, held()), at(4, held())))
		}
		wantCopied(t, "itself", room, words, 5, 5, move(words, at(0, step(5)), at(0, step(5))))
		wantCopied(t, "itself, by two ways", room, words, 5, 5, move(words, at(1, held(), step(5)), at(0, step(5))))
	}
}

// Copies of which some words lie further off than an instruction's own number reaches.
func TestFarCopies(t *testing.T) {
	const room = 480
	for _, words := range []int{1, 4, 8, 9, 30, 128} {
		for _, far := range []int{350, 479 - 8, 500, 505, 510, 511, 512, 513, 600, 1024, 60000} {
			for _, to := range []int{0, 200} {
				back := set(3, n(to-far))
				wantCopied(t, "to there and back", room, words, to, 220, back, move(words, at(0, times(3, 1), step(far)), at(0, step(220))))
				wantCopied(t, "from there and back", room, words, 220, to, back, move(words, at(0, step(220)), at(1, held(), times(3, 1), step(far))))
				wantCopied(t, "both", room, words, to, to, back, move(words, at(1, held(), times(3, 1), step(far)), at(0, times(3, 1), step(far))))
			}
			if far > room {
				comes(t, "beyond all", trapped(), starts([]int{room, 1}, move(words, at(0, step(far+128)), at(0))))
				comes(t, "from beyond all", trapped(), starts([]int{room, 1}, move(words, at(0), at(0, step(far+128)))))
			}
		}
	}
}

// Likewise where both addresses are known to lie so far apart: the words' ends are at, or beyond, what an instruction's own number reaches.
func TestFarCopiesByOneAddress(t *testing.T) {
	const room = 400
	for _, words := range []int{1, 8, 9, 12, 13, 40} {
		for end := 508; end <= 516; end++ { // where the words of the one further on end
			for _, apart := range []int{-5, -1, 0, 1, 5, 60} {
				to := 150
				from := to - apart
				shift := end - words - max(to, from)
				wantCopied(t, fmt.Sprint("up to ", end), room, words, to, from, addr(3, at(0)), bin(3, v(3), "sub", n(4*shift)), move(words, at(3, held(), step(to+shift)), at(3, held(), step(from+shift))))
			}
		}
	}
}

// A copy of words that are not all there ends the run, and changes nothing that could be seen.
func TestCopiesBeyond(t *testing.T) {
	for _, words := range []int{2, 9, 128} {
		comes(t, "beyond the frame", trapped(3), starts([]int{1, words - 1, words}, show(n(3)), move(words, at(2), at(2, step(1))), show(n(4))))
		comes(t, "beyond a block", trapped(3), starts([]int{1, words, words}, alloc(0, words), show(n(3)), move(words, at(0, held(), step(200)), at(1)), show(n(4))))
		comes(t, "a block that was let go", trapped(3), starts([]int{1, words, words}, alloc(0, words), free(v(0)), show(n(3)), move(words, at(1), at(0, held())), show(n(4))))
	}
}

// Between two loops' blocks nothing is lost: what is plain stays, ends are the right ones, and blocks behind it are come to.
func TestCopiesBetween(t *testing.T) {
	f := fn("main", []int{40, 40, 1, 1, 1}, 0, 0,
		block(branch(v(4), 0, 1), store(at(0, times(2, 1)), v(2)), bin(2, v(2), "add", n(1)), bin(4, v(2), "slt", n(40))),
		block(branch(v(3), 2, 3), move(40, at(1), at(0)), move(39, at(0, step(1)), at(0)), addr(4, at(1)), move(20, at(4, held(), step(5)), at(0)), show(v(2)), bin(3, v(2), "xor", n(40))),
		block(fail()), block(jump(4), load(4, at(0, step(39))), show(v(4)), load(4, at(1, step(7))), show(v(4)), load(4, at(1, step(39))), show(v(4))), block(answer(), show(n(1))))
	comes(t, "copies", exit(40, 38, 1, 39, 1), f)
	// Great copies are loops: they take few instructions.
	for _, p := range []api.Place{at(1), at(2, held())} {
		many := 0
		for _, b := range lowered(t, starts([]int{128, 128, 1}, addr(2, at(1)), move(128, p, at(0))))[0].Blocks {
			many += len(b.List) + 1
		}
		if many > 50 {
			t.Errorf("%d instructions", many)
		}
	}
}
