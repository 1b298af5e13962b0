package mir

import (
	"testing"

	"ferrule/api"
)

func TestCallsPass(t *testing.T) {
	comes(t, "words in order", exit(1, 23456, 78, 7, 8, 9, 10), nil,
		starts([]int{1, 1, 1, 1}, set(3, n(3)),
			calls([]int{0, 1, 2}, "f", n(1), n(2), v(3), n(4), n(5), n(6), n(7), n(8)), show(v(0)), show(v(1)), show(v(2)),
			calls([]int{3, 2, 1, 0}, "g"), show(v(3)), show(v(2)), show(v(1)), show(v(0))),
		fn("f", []int{1, 0, 5, 2, 1, 1}, 4, 3, block(answer(v(0), v(4), v(5)),
			bin(4, n(0), "add", n(0)), load(5, at(2)), bin(4, v(5), "mul", n(10000)),
			load(5, at(2, on(1))), bin(5, v(5), "mul", n(1000)), bin(4, v(4), "add", v(5)),
			load(5, at(2, on(2))), bin(5, v(5), "mul", n(100)), bin(4, v(4), "add", v(5)),
			load(5, at(2, on(3))), bin(5, v(5), "mul", n(10)), bin(4, v(4), "add", v(5)),
			load(5, at(2, on(4))), bin(4, v(4), "add", v(5)),
			load(5, at(3)), bin(5, v(5), "mul", n(10)), load(0, at(3, on(1))), bin(5, v(5), "add", v(0)), set(0, n(1)))),
		fn("g", nil, 0, 4, block(answer(n(7), n(8), n(9), n(10)))))
	comes(t, "one Dst twice has the last word", exit(2), nil,
		starts([]int{1}, calls([]int{0, 0}, "f"), show(v(0))), fn("f", nil, 0, 2, block(answer(n(1), n(2)))))
	comes(t, "words that are swapped", exit(2, 1), nil,
		starts([]int{1, 1}, set(0, n(1)), set(1, n(2)), calls([]int{0, 1}, "f", v(1), v(0)), show(v(0)), show(v(1))),
		fn("f", []int{1, 1}, 2, 2, block(answer(v(0), v(1)))))
	comes(t, "where a call is gone on", exit(1, 2, 3), nil,
		fn("main", nil, 0, 0, block(jump(1), show(n(1)), calls(nil, "f"), show(n(3))), block(answer())),
		fn("f", nil, 0, 0, block(jump(1)), block(answer(), show(n(2)))))
	comes(t, "a panic in a call", failed(2), nil, starts(nil, calls(nil, "f"), show(n(1))), fn("f", nil, 0, 0, block(fail(), show(n(2)))))
}

// TestCallsBeginWithZeros leaves words behind in locals, which the next call at the same place does not see.
func TestCallsBeginWithZeros(t *testing.T) {
	comes(t, "locals of a second call", exit(0, 0, 0, 0, 0, 0), nil,
		starts([]int{2, 1}, load(1, at(0, on(1))), show(v(1)), calls(nil, "f"), calls(nil, "f"), show(n(0))),
		fn("f", []int{1, 2}, 0, 0, block(answer(), show(v(0)), set(0, n(5)), store(at(1), v(0)), store(at(1, on(1)), v(0)), calls(nil, "g"))),
		fn("g", []int{3, 1}, 0, 0, block(answer(), load(1, at(0, on(2))), show(v(1)), store(at(0), n(7)), store(at(0, on(2)), n(6)), set(1, n(5)))))
}

// down is functions that call themselves so deep that so many calls are under way, main among them, and print how deep they are.
func deep(loud, silent int) []api.Mir {
	goesOn := func(name string, again, then string) api.Mir {
		list := []api.Instr{}
		if then != "" {
			list = append(list, calls(nil, then, n(silent)))
		}
		return fn(name, []int{1, 1}, 1, 0,
			block(branch(v(1), 1, 2), bin(1, n(1), "slt", v(0)), bin(0, v(0), "sub", n(1))),
			block(answer(), calls(nil, again, v(0))),
			block(answer(), list...))
	}
	l := []api.Mir{starts(nil, calls(nil, "loud", n(loud)), show(n(1))), goesOn("loud", "loud", ""), quiet(goesOn("silent", "silent", ""))}
	if silent > 0 {
		l[1] = goesOn("loud", "loud", "silent")
	}
	if loud == 0 {
		l[0] = starts(nil, calls(nil, "silent", n(silent)), show(n(1)))
	}
	return l
}

func TestCallsDepth(t *testing.T) {
	const most = 4*api.MaxDepth + 200
	for _, c := range []struct {
		loud, silent int // behind main
		want         api.Outcome
	}{
		{api.MaxDepth - 1, 0, exit(1)},
		{api.MaxDepth, 0, outcome(api.OutDepth, 0)},
		{0, most - 1, exit(1)},
		{0, most, outcome(api.OutDepth, 0)},
		{10, most - 11, exit(1)},
		{10, most - 10, outcome(api.OutDepth, 0)},
		{api.MaxDepth - 1, most - api.MaxDepth, exit(1)},
		{api.MaxDepth - 1, most - api.MaxDepth + 1, outcome(api.OutDepth, 0)},
	} {
		if got, _ := Run(nil, deep(c.loud, c.silent), nil, plenty); !alike(got, c.want) {
			t.Errorf("%d and %d quiet ones: %+v, not %+v", c.loud, c.silent, got, c.want)
		}
	}
}

// TestCallsDepthAmongQuietOnes has every second call be a quiet one: only the others count to MaxDepth.
func TestCallsDepthAmongQuietOnes(t *testing.T) {
	ping := func(rounds int) []api.Mir {
		return []api.Mir{
			starts(nil, calls(nil, "ping", n(rounds)), show(n(1))),
			quiet(fn("ping", []int{1}, 1, 0, block(branch(v(0), 1, 2)), block(answer(), bin(0, v(0), "sub", n(1)), calls(nil, "pong", v(0))), block(answer()))),
			fn("pong", []int{1}, 1, 0, block(answer(), calls(nil, "ping", v(0)))),
		}
	}
	comes(t, "just as deep", exit(1), nil, ping(api.MaxDepth-1)...)
	comes(t, "too deep", outcome(api.OutDepth, 0), nil, ping(api.MaxDepth)...)
}

// TestCallsEnd lets calls end, so that others have room again, of both kinds.
func TestCallsEnd(t *testing.T) {
	l := deep(api.MaxDepth-1, 4*api.MaxDepth+200-api.MaxDepth)
	call := l[0].Blocks[0].List[0]
	l[0].Blocks[0].List = []api.Instr{call, call, call, show(n(1))}
	comes(t, "again and again", exit(1), nil, l...)

	many := fn("main", []int{1}, 0, 0,
		block(jump(1), set(0, n(1000))),
		block(branch(v(0), 2, 3)),
		block(jump(1), bin(0, v(0), "sub", n(1)), calls(nil, "f"), calls(nil, "q")),
		block(answer(), show(n(1))))
	comes(t, "many, one behind the other", exit(1), nil, many, fn("f", nil, 0, 0, block(answer())), quiet(fn("q", nil, 0, 0, block(answer()))))
}

// TestCallsOfQuietMain: a quiet main is none of those that are not.
func TestCallsOfQuietMain(t *testing.T) {
	for loud, want := range map[int]api.Outcome{api.MaxDepth: exit(1), api.MaxDepth + 1: outcome(api.OutDepth, 0)} {
		l := deep(loud, 0)
		l[0].Quiet = true
		comes(t, "a quiet main", want, nil, l...)
	}
}
