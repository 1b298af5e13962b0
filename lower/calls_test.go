package lower_test

import (
	"fmt"
	"testing"

	"ferrule/api"
)

// P18.2 of calls: params of one word and of several, plain ones and such that lie in the frame; operands and answers of all kinds.

// listed is a function that prints all words of its params, and answers some of them; framed: which of its scalars lie in the frame.
func listed(name string, params []int, answers int, framed ...int) api.Mir {
	locals := append(append([]int{}, params...), 1, 1)
	spare := len(params)
	f := fn(name, locals, len(params), answers)
	var list []api.Instr
	var words []api.Operand
	for k, n := range params {
		for word := range n {
			switch {
			case n == 1:
				list = append(list, show(v(k)))
				words = append(words, v(k))
			default:
				list = append(list, load(spare, at(k, step(word))), show(v(spare)))
			}
		}
	}
	for _, k := range framed {
		list = append(list, addr(spare+1, at(k)))
	}
	for len(words) < answers {
		words = append(words, n(100+len(words)))
	}
	f.Blocks = []api.Block{block(answer(words[:answers]...), list...)}
	return f
}

func TestParams(t *testing.T) {
	for _, params := range [][]int{{}, {1}, {2}, {0}, {1, 1}, {1, 2, 1}, {3, 1, 4}, {8}, {1, 1, 1, 1, 1, 1, 1, 1}, {0, 1, 0, 2, 0}, {2, 2, 2, 2}, {7, 1}, {1, 7}} {
		for which := range 4 {
			var framed []int
			for k, words := range params {
				if words == 1 && (which == 1 || which == 2 && k%2 == 0 || which == 3 && k%2 == 1) {
					framed = append(framed, k)
				}
			}
			var args []api.Operand
			var want []int
			total := 0
			for _, words := range params {
				total += words
			}
			for k := range total {
				args = append(args, n(20+k))
				want = append(want, 20+k)
			}
			comes(t, fmt.Sprint(params, framed), exit(want...), starts(nil, calls(nil, "f", args...)), listed("f", params, 0, framed...))
		}
	}
}

// Operands of all kinds: numbers, 0, wide ones, plain locals, such in the frame, one more than once.
func TestArguments(t *testing.T) {
	f := listed("f", []int{1, 2, 1, 1, 1, 1, 1}, 0)
	main := starts(scalars(5), set(0, n(5)), set(1, n(6)), set(2, n(7)), addr(3, at(1)), calls(nil, "f", n(1), n(0), v(0), v(1), v(0), n(1<<32+2), v(1), n(-1<<31)), calls(nil, "f", v(4), v(4), v(1), v(1), v(1), v(2), v(0), v(0)), show(v(0)), show(v(1)))
	comes(t, "operands", exit(1, 0, 5, 6, 5, 2, 6, -1<<31, 0, 0, 6, 6, 6, 7, 5, 5, 5, 6), main, f)
	// A param that is changed is the function's own.
	own := fn("f", []int{1, 1, 2, 1}, 3, 1, block(answer(v(0)), bin(0, v(0), "add", n(1)), addr(3, at(1)), store(at(3, held()), n(50)), store(at(2, step(1)), n(60)), bin(0, v(0), "add", v(1))))
	comes(t, "params that change", exit(56, 5, 6), starts(scalars(4), set(0, n(5)), set(1, n(6)), calls([]int{2}, "f", v(0), v(1), v(0), v(1)), show(v(2)), show(v(0)), show(v(1))), own)
}

func TestAnswers(t *testing.T) {
	for answers := range api.MaxPass + 1 {
		for which := range 3 {
			main := starts(scalars(10))
			var dsts, want []int
			for k := range answers {
				dsts = append(dsts, k)
				want = append(want, 100+k)
			}
			list := []api.Instr{calls(dsts, "f")}
			for k := range answers {
				list = append(list, show(v(k)))
				if which == 1 || which == 2 && k%2 == 0 {
					list = append(list, addr(9, at(k)))
				}
			}
			main.Blocks[0].List = list
			comes(t, fmt.Sprint(answers, which), exit(want...), main, listed("f", nil, answers))
		}
	}
	// One that stands there twice has its last word, plain or in the frame; an argument may be where an answer comes.
	twice := starts(scalars(4), set(0, n(1)), calls([]int{0, 1, 0, 1}, "f", v(0), v(1), n(3), n(4)), show(v(0)), show(v(1)), addr(3, at(1)))
	comes(t, "twice", exit(1, 0, 3, 4, 3, 4), twice, listed("f", scalars(4), 4))
	turned := starts(scalars(2), set(0, n(1)), set(1, n(2)), calls([]int{1, 0}, "f", v(0), v(1)), show(v(0)), show(v(1)))
	comes(t, "turned", exit(1, 2, 2, 1), turned, listed("f", scalars(2), 2))
	// Answers that are numbers, words of the frame, params, one more than once.
	f := fn("f", []int{1, 1, 1}, 1, 6, block(answer(n(0), n(1<<32+7), v(0), v(1), v(1), v(0)), set(1, n(9)), addr(2, at(1))))
	comes(t, "answers of all kinds", exit(0, 7, 5, 9, 9, 5), starts(scalars(6), calls([]int{0, 1, 2, 3, 4, 5}, "f", n(5)), show(v(0)), show(v(1)), show(v(2)), show(v(3)), show(v(4)), show(v(5))), f)
}

// A function that calls itself: its locals are each call's own, and 0 at first.
func TestCallsOfItself(t *testing.T) {
	fib := fn("fib", scalars(5), 1, 1, block(branch(v(1), 1, 2), bin(1, v(0), "slt", n(2))), block(answer(v(0))),
		block(answer(v(4)), bin(1, v(0), "sub", n(1)), calls([]int{2}, "fib", v(1)), bin(1, v(0), "sub", n(2)), calls([]int{3}, "fib", v(1)), bin(4, v(2), "add", v(3))))
	comes(t, "fib", exit(144), starts(scalars(1), calls([]int{0}, "fib", n(12)), show(v(0))), fib)
	framed := fn("f", []int{1, 3, 1, 1}, 1, 0, block(branch(v(0), 1, 2), load(2, at(1, step(1))), show(v(2)), store(at(1, step(1)), v(0))), block(jump(2), bin(3, v(0), "sub", n(1)), calls(nil, "f", v(3))), block(answer(), load(2, at(1, step(1))), show(v(2)), show(v(0))))
	comes(t, "words of the frame", exit(0, 0, 0, 0, 0, 1, 1, 2, 2), starts(nil, calls(nil, "f", n(2))), framed)
	// What one has in its frame is there for those that it calls.
	lent := fn("f", []int{1, 1, 1}, 2, 0, block(branch(v(0), 1, 2), load(2, at(1, held())), bin(2, v(2), "add", v(0)), store(at(1, held()), v(2))), block(jump(2), bin(0, v(0), "sub", n(1)), calls(nil, "f", v(0), v(1))), block(answer()))
	comes(t, "lent", exit(10), starts([]int{1, 1}, addr(1, at(0)), calls(nil, "f", n(4), v(1)), show(v(0))), lent)
}

func TestDepth(t *testing.T) {
	for _, is := range []bool{false, true} {
		f := fn("f", scalars(1), 1, 0, block(answer(), show(v(0)), bin(0, v(0), "add", n(1)), calls(nil, "f", v(0))))
		f.Quiet = is
		got := runs(t, "ever deeper", nil, []api.Mir{starts(nil, calls(nil, "f", n(1))), f}, nil, 10_000)
		want := api.MaxDepth - 1
		if is {
			want = 4*api.MaxDepth + 200 - 1
		}
		if got.Kind != api.OutDepth || len(got.Print) != want {
			t.Error(got.Kind, len(got.Print))
		}
	}
}

// The first block may be gone to again: what is passed is brought into the frame once.
func TestFirstBlockAgain(t *testing.T) {
	count := func(locals []int, more ...api.Instr) api.Mir { // counts its param down to 0
		list := append([]api.Instr{show(v(0)), bin(0, v(0), "sub", n(1))}, more...)
		return fn("f", locals, 1, 0, block(branch(v(0), 0, 1), list...), block(answer(), show(v(0))))
	}
	comes(t, "plain", exit(3, 2, 1, 0), starts(nil, calls(nil, "f", n(3))), count(scalars(1)))
	comes(t, "in the frame", exit(3, 2, 1, 0), starts(nil, calls(nil, "f", n(3))), count(scalars(2), addr(1, at(0))))
	words := fn("f", []int{2, 1, 1}, 2, 0, block(branch(v(1), 0, 1), load(2, at(0, step(1))), show(v(2)), bin(2, v(2), "add", n(10)), store(at(0, step(1)), v(2)), bin(1, v(1), "sub", n(1))), block(answer(), load(2, at(0)), show(v(2))))
	comes(t, "of several words", exit(6, 16, 26, 5), starts(nil, calls(nil, "f", n(5), n(6), n(3))), words)
	for which, end := range []api.Term{jump(0), branch(v(1), 0, 2), branch(v(1), 2, 0), branch(v(1), 0, 0)} {
		f := fn("f", []int{2, 1, 1}, 1, 0, block(branch(v(1), 2, 1), load(1, at(0)), show(v(1)), store(at(0), n(0))), block(end, store(at(0), n(7)), set(1, n(1))), block(answer()))
		if which == 2 {
			f.Blocks[1].List = append(f.Blocks[1].List, set(1, n(0)))
		}
		runs(t, "again by each kind of end", nil, []api.Mir{starts(nil, calls(nil, "f", n(5), n(6))), f}, nil, 300)
		runs(t, "0 at first", nil, []api.Mir{starts(nil, calls(nil, "f", n(0), n(6))), f}, nil, 300)
	}
	// An end that does not go there may have anything in its fields.
	f := fn("f", []int{2}, 1, 0, block(api.Term{Kind: api.TeGoto, To: 1, Else: 0}), block(api.Term{Kind: api.TeReturn, To: 0}))
	if out := lowered(t, f)[0]; len(out.Blocks) != 2 {
		t.Errorf("%v", out)
	}
}
