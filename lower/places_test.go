package lower_test

import (
	"fmt"
	"testing"

	"ferrule/api"
	"ferrule/low"
)

// P18.2 of places: each kind of step, several behind one another, near and far, in locals that are plain and in ones that lie in the frame.

// The locals of these tests.
const (
	words   = 0 // 12 of them
	index   = 1
	pointer = 2 // to words
	seen    = 3
	other   = 4 // an address, or an index
	pair    = 5 // two addresses
	inFrame = 6 // an index that lies in the frame
	last    = 7 // 3 words, behind all others
)

// placed is a main that fills its words, 10 on, and its last ones, 50 on, points to the words, and then does something.
func placed(list ...api.Instr) api.Mir {
	all := []api.Instr{}
	for k := range 12 {
		all = append(all, store(at(words, step(k)), n(10+k)))
	}
	for k := range 3 {
		all = append(all, store(at(last, step(k)), n(50+k)))
	}
	all = append(all, addr(pointer, at(words)), store(at(pair), v(pointer)), addr(other, at(words, step(4))), store(at(pair, step(1)), v(other)), addr(other, at(inFrame)))
	return starts([]int{12, 1, 1, 1, 1, 2, 1, 3}, append(all, list...)...)
}

// wantPlace asks for the word at a place, loads it, changes it, and goes there by its address.
func wantPlace(t *testing.T, what string, want int, p api.Place, ahead ...api.Instr) {
	t.Helper()
	list := append(append([]api.Instr{}, ahead...), load(seen, p), show(v(seen)), store(p, n(7)), load(seen, p), show(v(seen)), addr(other, p), load(seen, at(other, held())), show(v(seen)), store(p, n(0)), load(seen, at(other, held())), show(v(seen)))
	for k := range 12 { // the others stay as they were
		list = append(list, load(seen, at(words, step(k))), show(v(seen)))
	}
	print := []int{want, 7, 7, 0}
	for k := range 12 {
		if 10+k == want {
			print = append(print, 0)
		} else {
			print = append(print, 10+k)
		}
	}
	comes(t, what, exit(print...), placed(list...))
}

func TestPlaces(t *testing.T) {
	is := func(scalar, word int) api.Instr { return set(scalar, n(word)) }
	wantPlace(t, "the first word", 10, at(words))
	wantPlace(t, "no words on", 10, at(words, step(0)))
	wantPlace(t, "the last one", 21, at(words, step(11)))
	wantPlace(t, "two steps", 17, at(words, step(3), step(4)))
	wantPlace(t, "an index", 15, at(words, times(index, 1)), is(index, 5))
	wantPlace(t, "an index in the frame", 15, at(words, times(inFrame, 1)), is(inFrame, 5))
	for size, word := range map[int]int{0: 10, 1: 13, 2: 16, 3: 19} {
		wantPlace(t, fmt.Sprint("elements of ", size), word, at(words, times(index, size)), is(index, 3))
		wantPlace(t, fmt.Sprint("elements behind, of ", size), word+2, at(words, step(1), times(index, size), step(1)), is(index, 3))
	}
	wantPlace(t, "an index of 0", 10, at(words, times(index, 5)))
	wantPlace(t, "an index below 0", 14, at(words, step(7), times(index, 1)), is(index, -3))
	wantPlace(t, "two indexes", 10+2*3+4, at(words, times(index, 3), times(inFrame, 1)), is(index, 2), is(inFrame, 4))
	wantPlace(t, "one index twice", 10+2*3+2*2, at(words, times(index, 3), times(index, 2)), is(index, 2))
	wantPlace(t, "held by a plain local", 10, at(pointer, held()))
	wantPlace(t, "held, and on", 16, at(pointer, held(), step(6)))
	wantPlace(t, "held, and an index", 10+2*4, at(pointer, held(), times(index, 4)), is(index, 2))
	wantPlace(t, "held, on, and an index", 10+1+2*4+1, at(pointer, held(), step(1), times(index, 4), step(1)), is(index, 2))
	wantPlace(t, "held in the frame", 10, at(pair, held()))
	wantPlace(t, "held in the frame, on", 17, at(pair, step(1), held(), step(3)))
	wantPlace(t, "held by an element", 16, at(pair, times(index, 1), held(), times(index, 2)), is(index, 1))
	wantPlace(t, "held by what is held", 14+5, at(pointer, held(), step(1), held(), step(5)), addr(pointer, at(pair)))
	wantPlace(t, "three times", 10+2, at(pointer, held(), held(), step(1), held(), step(2), step(0)), addr(other, at(pair)), alloc(pointer, 1), store(at(pointer, held()), v(other)), addr(other, at(words)), store(at(pair, step(1)), v(other)))
	wantPlace(t, "in the last local", 52, at(last, step(1), times(index, 1)), is(index, 1))
}

// Words that lie further off than an instruction's own number reaches, and steps that come back from there.
func TestFarPlaces(t *testing.T) {
	for _, far := range []int{498, 499, 500, 511, 512, 513, 1023, 1024, 1025, 5000, 65535, 65536} {
		back := set(index, n(3-far))
		wantPlace(t, fmt.Sprint("there and back, ", far), 13, at(words, step(far), times(index, 1)), back)
		wantPlace(t, fmt.Sprint("back and there, ", far), 13, at(words, times(index, 1), step(far)), back)
		wantPlace(t, fmt.Sprint("held, there and back, ", far), 13, at(pointer, held(), step(far), times(index, 1)), back)
		wantPlace(t, fmt.Sprint("held, back and there, ", far), 13, at(pointer, held(), times(index, 1), step(far)), back)
		wantPlace(t, fmt.Sprint("by elements, ", far), 13, at(words, times(index, far), step(far), step(3)), set(index, n(-1)))
		wantPlace(t, fmt.Sprint("held on the way, ", far), 16, at(pair, step(far), times(index, 1), held(), step(2)), set(index, n(1-far)))
		wantPlace(t, fmt.Sprint("held far behind an element, ", far), 16, at(pair, times(index, 1), step(far), held(), step(2)), set(index, n(1-far)))
		// Beyond all there is nothing.
		for _, p := range []api.Place{at(last, step(far)), at(words, step(far), step(far)), at(pointer, held(), step(2*far-far)), at(pointer, held(), step(far), held())} {
			if far > 500 {
				comes(t, fmt.Sprint("beyond, ", far), trapped(), placed(load(seen, p), show(v(seen))))
				comes(t, fmt.Sprint("stored beyond, ", far), trapped(), placed(store(p, n(1)), show(v(seen))))
			}
		}
	}
	// So far that the bytes are wider than a word: 2^14 times 2^16 words are no words on.
	steps := make([]api.Step, 1<<14)
	for k := range steps {
		steps[k] = step(1 << 16)
	}
	for on := range 3 {
		wantPlace(t, "once around", 10+on, at(words, append(steps, step(on))...))
		wantPlace(t, "once around, held", 10+on, at(pointer, append(append([]api.Step{held()}, steps...), step(on))...))
	}
	wantPlace(t, "half around, and back by an index", 14, at(words, append(steps[:len(steps)/2:len(steps)/2], times(index, 1<<14), step(4))...), set(index, n(-1<<15)))
}

// All words of a great frame, near and far in it.
func TestGreatFrames(t *testing.T) {
	const most = api.MaxFrame / 4
	for _, first := range []int{0, 1, 100, 249, 400} {
		f := starts([]int{first, most - 1 - first, 1, 1, 1})
		var list []api.Instr
		var print []int
		for k := 0; k < most-1-first; k += 7 {
			list = append(list, store(at(1, step(k)), n(k)), set(3, n(k)), load(4, at(1, times(3, 1))), show(v(4)))
			print = append(print, k)
		}
		list = append(list, store(at(2), n(77)), show(v(2)), load(4, at(1, step(0))), show(v(4)))
		f.Blocks[0].List = list
		comes(t, fmt.Sprint("from ", first), exit(append(print, 77, 0)...), f)
	}
}

// A word's address may be no multiple of 4, or nobody's.
func TestWrongPlaces(t *testing.T) {
	for what, p := range map[string]api.Place{
		"the address 0": at(seen, held()), "the address 0, on": at(seen, held(), step(5)), "an odd one": at(other, held()), "held at the address 0": at(seen, held(), held()), "behind an odd one": at(other, held(), step(1), held()), "by an index": at(seen, held(), times(index, 1)),
	} {
		ahead := []api.Instr{set(seen, n(0)), bin(other, v(pointer), "add", n(2)), set(index, n(1)), show(n(1))}
		comes(t, what, trapped(1), placed(append(ahead, load(seen, p), show(n(2)))...))
		comes(t, what+", stored", trapped(1), placed(append(ahead, store(p, n(3)), show(n(2)))...))
		comes(t, what+", copied", trapped(1), placed(append(ahead, move(1, p, at(words)), show(n(2)))...))
		comes(t, what+", copied from", trapped(1), placed(append(ahead, move(1, at(words), p), show(n(2)))...))
		comes(t, what+", copied much", trapped(1), placed(append(ahead, move(12, at(words), p), show(n(2)))...))
	}
	// Of what is not loaded the address is told still; no words are copied of any address.
	comes(t, "the address of nothing", exit(28), placed(set(seen, n(8)), addr(seen, at(seen, held(), step(5))), show(v(seen))))
	comes(t, "no words", exit(4), placed(set(seen, n(8)), move(0, at(seen, held()), at(seen, held(), step(9))), show(n(4))))
	comes(t, "no words, but words on the way", trapped(), placed(set(seen, n(8)), move(0, at(seen, held(), held()), at(words)), show(n(4))))
}

// The index, or what points, may be what is loaded.
func TestPlacesOfThemselves(t *testing.T) {
	comes(t, "an index", exit(12), placed(set(index, n(2)), load(index, at(words, times(index, 1))), show(v(index))))
	comes(t, "an index in the frame", exit(12), placed(set(inFrame, n(2)), load(inFrame, at(words, times(inFrame, 1))), show(v(inFrame))))
	comes(t, "what points", exit(14), placed(load(pointer, at(pointer, held(), step(4))), show(v(pointer))))
	comes(t, "an address of its own", exit(14), placed(addr(pointer, at(pointer, held(), step(4))), load(pointer, at(pointer, held())), show(v(pointer))))
	comes(t, "stored in itself", exit(1), placed(store(at(inFrame), v(inFrame)), set(inFrame, n(1)), store(at(other, held()), v(inFrame)), show(v(inFrame))))
	// An element of a power of two words is shifted to, not multiplied.
	f := placed(load(seen, at(words, times(index, 4))))
	for _, in := range lowered(t, f)[0].Blocks[0].List {
		if in.Op == api.LoBin && in.Text == "mul" {
			t.Errorf("%v", in)
		}
	}
	if low.Check(lowered(t, f)) != api.OK {
		t.Error("refused")
	}
}
