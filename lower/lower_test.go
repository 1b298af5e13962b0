package lower_test

import (
	"testing"

	"ferrule/api"
	"ferrule/lower"
)

// P18.1: what is refused, and what is told of the others; P18.2 of each operation and each end.

// wantRefused: an error, and nothing else.
func wantRefused(t *testing.T, what string, want api.Errno, l ...api.Mir) {
	t.Helper()
	if out, e := lower.Lower(l); e != want || len(out) != 0 {
		t.Errorf("%s: %d, %d functions", what, int(e), len(out))
	}
}

// letting are the operations of what is let go, in forms that mir.Check takes.
func letting() []api.Instr {
	return []api.Instr{
		{Op: api.OpDrop, Type: api.Type{Kind: api.TyU8}, P: at(0)}, {Op: api.OpDrop, Type: api.Type{Kind: api.TyBox, Elem: []api.Type{{Kind: api.TyU8}}}, P: at(0, held())},
		{Op: api.OpGive}, {Op: api.OpTake}, {Op: api.OpClear, Type: api.Type{Kind: api.TyU8}},
	}
}

func TestLettingGo(t *testing.T) {
	for _, in := range letting() {
		wantRefused(t, "alone", api.ErrForm, starts(scalars(1), in))
		wantRefused(t, "behind others", api.ErrForm, starts(scalars(1), show(n(1)), set(0, n(1)), in, show(n(2))))
		wantRefused(t, "where nothing comes to", api.ErrForm, fn("main", scalars(1), 0, 0, block(answer()), block(answer()), block(fail(), in)))
		wantRefused(t, "in another function", api.ErrForm, starts(nil), fn("f", scalars(2), 1, 0, block(answer(), in)))
		// It comes ahead of a frame that is too big, wherever that is.
		wantRefused(t, "and a great frame", api.ErrForm, starts([]int{1, 501}, in))
		wantRefused(t, "behind a great frame", api.ErrForm, starts([]int{1, 501}), fn("f", scalars(1), 0, 0, block(answer(), in)))
	}
	// The operations around these are taken.
	comes(t, "around", exit(7), starts(scalars(1), alloc(0, 1), free(v(0)), show(n(7)), read(0)))
}

func TestFrames(t *testing.T) {
	const most = api.MaxFrame / 4
	for _, of := range []struct{ locals, scalars []int }{{[]int{most}, nil}, {[]int{most - 12, 12}, nil}, {[]int{1, most - 1, 1}, []int{0}}, {[]int{0, most, 0}, nil}, {[]int{250, 1, 1, 248, 1, 1}, []int{1, 4}}} {
		locals := of.locals
		var list []api.Instr
		for _, k := range of.scalars { // in the frame
			list = append(list, store(at(k), n(5)))
		}
		f := starts(locals, list...)
		out, e := lower.Lower([]api.Mir{f})
		if e != api.OK || fault([]api.Mir{f}, out) != "" || out[0].Frame != most {
			t.Errorf("%v: %d, %v", locals, int(e), out)
		}
		comes(t, "just as big", exit(), f)
		f.Locals = append(f.Locals, 1)
		f.Blocks[0].List = append(f.Blocks[0].List, store(at(len(locals)), n(6)))
		wantRefused(t, "one word more", api.ErrFrame, f)
		wantRefused(t, "one word more, of the second one", api.ErrFrame, starts(nil), fn("f", f.Locals, 0, 0, f.Blocks...))
		f.Blocks[0].List[len(list)] = set(len(locals), n(6))
		comes(t, "one word more, in a register", exit(), f)
	}
	wantRefused(t, "a local that is too great", api.ErrForm, starts([]int{513}))
	wantRefused(t, "one that is not", api.ErrFrame, starts([]int{512}))
	wantRefused(t, "very many", api.ErrFrame, starts(make1000(512)))
	// What stands in the last word of a frame is there.
	comes(t, "the last word", exit(8), starts([]int{most - 1, 1, 1}, store(at(1), n(8)), addr(2, at(1)), load(2, at(2, held())), show(v(2))))
	comes(t, "the last words", exit(8, 9), starts([]int{most - 1, 1, 1}, store(at(0, step(most-2)), n(8)), store(at(1), n(9)), load(2, at(0, step(most-2))), show(v(2)), show(v(1))))
}

func make1000(words int) []int {
	all := make([]int, 1000)
	for k := range all {
		all[k] = words
	}
	return all
}

func TestNothing(t *testing.T) {
	for _, l := range [][]api.Mir{nil, {}} {
		if out, e := lower.Lower(l); e != api.OK || len(out) != 0 {
			t.Error(int(e), len(out))
		}
	}
	// There need be no main, and nothing to do; lists may be nil or empty.
	lowered(t, fn("f", nil, 0, 0, block(answer())), fn("", []int{}, 0, 0, api.Block{List: []api.Instr{{Op: api.OpCall, Text: "f", Args: []api.Operand{}, Dsts: []int{}}}, Term: api.Term{Kind: api.TeReturn, Args: []api.Operand{}}}))
	comes(t, "a main of nothing", exit(), starts(nil))
	comes(t, "a main that panics", failed(), fn("main", nil, 0, 0, block(fail())))
}

// One for each function, in order, of its name, params, answers, and as quiet.
func TestFunctions(t *testing.T) {
	l := []api.Mir{
		quiet(fn("b", []int{2, 0, 1, 5}, 3, 2, block(answer(v(2), n(1))))), fn("a", scalars(1), 1, 0, block(fail())), quiet(fn("main", nil, 0, 0, block(answer()))),
		fn("all", scalars(8), 8, 8, block(answer(v(0), v(1), v(2), v(3), v(4), v(5), v(6), v(7)))), fn("", []int{8}, 1, 0, block(answer())), fn("no words", []int{0, 0}, 2, 0, block(jump(0))),
	}
	for k, f := range lowered(t, l...) {
		if want := []int{3, 1, 0, 8, 8, 0}[k]; len(f.Params) != want {
			t.Errorf("%s: %v", f.Name, f.Params)
		}
	}
}

func TestSet(t *testing.T) {
	comes(t, "numbers", exit(5, 0, -1, -1<<31, 3, 0, 1<<31-1, 4096, -2049), starts(scalars(1), set(0, n(5)), show(v(0)), set(0, n(0)), show(v(0)), set(0, n(-1)), show(v(0)), set(0, n(1<<31)), show(v(0)), set(0, n(1<<32+3)), show(v(0)), set(0, n(-1<<32)), show(v(0)), set(0, n(1<<31-1)), show(v(0)), set(0, n(4096)), show(v(0)), set(0, n(-2049)), show(v(0))))
	// From and to a plain local and one in the frame (2 and 3), each by each, and itself.
	for dst := range 4 {
		for from := range 4 {
			f := starts(scalars(5), set(0, n(10)), set(1, n(11)), set(2, n(12)), set(3, n(13)), set(dst, v(from)), show(v(dst)), show(v(from)), addr(4, at(2)), addr(4, at(3)), load(4, at(4, held())), show(v(4)))
			third := 13
			if dst == 3 {
				third = 10 + from
			}
			comes(t, "set", exit(10+from, 10+from, third), f)
		}
	}
	comes(t, "0 at first", exit(0, 0, 0, 0), starts([]int{1, 1, 2}, show(v(0)), addr(0, at(1)), show(v(1)), load(1, at(2, step(1))), show(v(1)), load(1, at(0, held())), show(v(1))))
}

func TestBin(t *testing.T) {
	words := []int{0, 1, -1, 5, -7, 31, 33, 1 << 31, 1<<31 - 1, 70000}
	for _, op := range allOperations {
		for _, plain := range []bool{true, false} {
			f := starts(scalars(6))
			f.Blocks[0].List = []api.Instr{read(0), read(1), bin(2, v(0), op, v(1)), show(v(2)), bin(2, v(0), op, v(0)), show(v(2)), bin(0, v(0), op, v(1)), show(v(0)), bin(1, v(0), op, v(1)), show(v(1))}
			if !plain {
				f.Blocks[0].List = append(f.Blocks[0].List, addr(5, at(0)), addr(5, at(1)), addr(5, at(2)))
			}
			for _, a := range words {
				for _, b := range words {
					runs(t, op, nil, []api.Mir{f}, []int{a, b}, 1000)
				}
			}
		}
	}
}

func TestPrint(t *testing.T) {
	in := func(number int, a api.Operand) api.Instr { return api.Instr{Op: api.OpPrint, A: a, N: number} }
	comes(t, "print", exit(-1, 1<<32-1, -1, -1, 0, 7, 3, 1<<31, -1<<31), starts(scalars(1), set(0, n(-1)), show(v(0)), showFrom0(v(0)), in(2, v(0)), in(-1, v(0)), show(n(0)), showFrom0(n(7)), show(n(1<<32+3)), showFrom0(n(1<<31)), show(n(1<<31))))
	for _, number := range []int{0, 2, 3, -1, 1 << 32, 1<<32 + 1} {
		comes(t, "another number", exit(-5), starts(nil, in(number, n(-5))))
	}
}

func TestRead(t *testing.T) {
	comesWith(t, "read", exit(5, -1, 3, 0, 0), []int{5, 1<<32 - 1, 1<<32 + 3}, starts(scalars(3), read(0), show(v(0)), read(1), addr(2, at(1)), show(v(1)), read(0), show(v(0)), read(0), show(v(0)), read(1), show(v(1))))
}

// Blocks are taken, copied and let go.
func TestBlocks(t *testing.T) {
	comes(t, "words of a block", exit(1, 2, 3), starts(scalars(3), alloc(0, 3), store(at(0, held()), n(1)), store(at(0, held(), step(1)), n(2)), store(at(0, held(), step(2)), n(3)), load(1, at(0, held())), show(v(1)), load(1, at(0, held(), step(1))), show(v(1)), load(1, at(0, held(), step(2))), show(v(1)), free(v(0))))
	comes(t, "in the frame", exit(9), starts([]int{1, 1}, alloc(0, 1), addr(1, at(0)), store(at(1, held(), held()), n(9)), load(1, at(0, held())), show(v(1)), free(v(0))))
	comes(t, "let go twice", trapped(1), starts(scalars(1), alloc(0, 4), free(v(0)), show(n(1)), free(v(0)), show(n(2))))
	comes(t, "let go and used", trapped(1), starts(scalars(2), alloc(0, 4), free(v(0)), show(n(1)), load(1, at(0, held())), show(n(2))))
	comes(t, "let go by a number", trapped(), starts(nil, free(n(12))))
	comes(t, "let go by the number 0", trapped(), starts(nil, free(n(0))))
	comes(t, "no words", exit(), starts(scalars(1), alloc(0, 0), free(v(0))))
	comes(t, "as many as a type has", exit(6), starts(scalars(2), alloc(0, 128), store(at(0, held(), step(127)), n(6)), load(1, at(0, held(), step(127))), show(v(1))))
	loop := fn("main", scalars(1), 0, 0, block(jump(1)), block(jump(1), alloc(0, 100), show(n(1))))
	if got := runs(t, "full", nil, []api.Mir{loop}, nil, 100_000); got.Kind != api.OutMemory {
		t.Error(got.Kind)
	}
	comes(t, "a heap that is used again", exit(1000), fn("main", scalars(3), 0, 0, block(branch(v(2), 0, 1), alloc(0, 128), free(v(0)), bin(1, v(1), "add", n(1)), bin(2, v(1), "slt", n(1000))), block(answer(), show(v(1)))))
}

func TestEnds(t *testing.T) {
	comes(t, "goto", exit(1, 2, 3), fn("main", nil, 0, 0, block(jump(2), show(n(1))), block(answer(), show(n(3))), block(jump(1), show(n(2)))))
	for number, want := range map[int]int{0: 2, 1: 1, -1: 1, 1 << 31: 1, 1 << 32: 2, 1<<32 + 1: 1} {
		comes(t, "if of a number", exit(want), fn("main", scalars(1), 0, 0, block(branch(n(number), 1, 2)), block(answer(), show(n(1))), block(answer(), show(n(2)))))
		comes(t, "if of a word", exit(want), fn("main", scalars(1), 0, 0, block(branch(v(0), 1, 2), set(0, n(number))), block(answer(), show(n(1))), block(answer(), show(n(2)))))
		comes(t, "if of a word of the frame", exit(want), fn("main", scalars(2), 0, 0, block(branch(v(0), 1, 2), set(0, n(number)), addr(1, at(0))), block(answer(), show(n(1))), block(answer(), show(n(2)))))
		comes(t, "if of a word that was made", exit(want), fn("main", scalars(2), 0, 0, block(branch(v(0), 1, 2), bin(0, v(1), "add", n(number))), block(answer(), show(n(1))), block(answer(), show(n(2)))))
	}
	comes(t, "if to one block", exit(4), fn("main", scalars(1), 0, 0, block(branch(v(0), 1, 1)), block(answer(), show(n(4)))))
	comes(t, "panic", failed(1), fn("main", nil, 0, 0, block(fail(), show(n(1)))))
	comes(t, "panic in a call", failed(1), starts(nil, calls(nil, "f"), show(n(2))), fn("f", nil, 0, 0, block(fail(), show(n(1)))))
	got := runs(t, "without an end", nil, []api.Mir{fn("main", scalars(1), 0, 0, block(jump(0), bin(0, v(0), "add", n(1)), show(v(0))))}, nil, 500)
	if got.Kind != api.OutFuel || len(got.Print) < 100 {
		t.Error(got)
	}
	comes(t, "a loop", exit(0, 1, 2, 3, 4), fn("main", scalars(2), 0, 0, block(branch(v(1), 1, 2), bin(1, v(0), "slt", n(5))), block(jump(0), show(v(0)), bin(0, v(0), "add", n(1))), block(answer())))
}
