package live_test

import (
	"math"
	"testing"

	"ferrule/api"
	"ferrule/live"
)

func TestRanges(t *testing.T) {
	wantRanges(t, "the chapter's example", fn(2, nil, 1, block(answer(1), li(0, 1), bin(1, 0, "add", 0))), span(1, 2), span(2, 3))
	wantRanges(t, "nothing reads or sets it", fn(3, nil, 0, block(answer(), li(1, 1))), unused(), span(1, 1), unused())
	wantRanges(t, "set and never read", fn(1, nil, 0, block(fail(), show(zero), li(0, 1), show(zero))), span(2, 2))
	wantRanges(t, "set again and never read", fn(1, nil, 0, block(fail(), li(0, 1), show(zero), li(0, 1))), span(1, 3))
	wantRanges(t, "read and never set", fn(1, nil, 0, block(fail(), show(zero), show(0), show(zero))), span(0, 2))
	wantRanges(t, "read by an end and never set", fn(1, nil, 1, block(answer(0))), span(0, 1))
	wantRanges(t, "read, and then set", fn(1, nil, 0, block(fail(), show(0), li(0, 1))), span(0, 2))
	wantRanges(t, "read and set at once", fn(1, nil, 0, block(fail(), show(zero), imm(0, 0, "add", 1))), span(0, 2))
	wantRanges(t, "a hole within", fn(1, nil, 0, block(fail(), li(0, 1), show(0), show(zero), li(0, 1), show(0))), span(1, 5))
	wantRanges(t, "by the blocks' order", fn(2, nil, 0, block(jump(2)), block(answer(), show(0), show(1)), block(jump(1), li(0, 1))), span(2, 8), span(0, 8))
	wantRanges(t, "in a block that nothing goes to", fn(3, nil, 0, block(answer()), block(answer(), show(0), li(1, 1))), span(2, 3), span(4, 4), unused())
	wantRanges(t, "it is needed behind an end, and set in a block of its own", fn(1, nil, 1, block(jump(1), li(0, 3)), block(jump(2)), block(answer(0))), span(1, 6))
	wantRanges(t, "it is needed behind an end that goes to two", fn(1, nil, 0, block(branch(zero, "eq", zero, 2, 1), li(0, 1)), block(fail()), block(answer(), show(0))), span(1, 6))
}

// TestLoopRanges: what is needed in a loop's next turn is needed to the loop's end.
func TestLoopRanges(t *testing.T) {
	loop := fn(4, regs(2), 1,
		block(jump(1), li(0, 0), li(1, 0)),
		block(branch(0, "lt", 2, 2, 3)),
		block(jump(1), bin(1, 1, "add", 0), li(3, 1), bin(0, 0, "add", 3)),
		block(answer(1)))
	wantRanges(t, "a loop", loop, span(1, 10), span(2, 12), span(0, 10), span(8, 9))
	back := fn(1, nil, 0, block(jump(1), show(zero)), block(branch(zero, "eq", zero, 0, 2), li(0, 1), show(0)), block(answer()))
	wantRanges(t, "not needed in the next turn", back, span(4, 5))
	round := fn(1, nil, 0, block(jump(1), show(0)), block(branch(zero, "eq", zero, 0, 2), li(0, 1), show(zero)), block(answer()))
	wantRanges(t, "needed in the next turn", round, span(0, 6))
}

func TestParamRanges(t *testing.T) {
	wantRanges(t, "one that nothing reads", fn(2, regs(1), 0, block(answer())), unused(), span(0, 0))
	wantRanges(t, "one that is read", fn(2, regs(1), 0, block(answer(), show(1))), unused(), span(0, 1))
	wantRanges(t, "one that is set only", fn(1, regs(0), 0, block(answer(), show(zero), li(0, 1))), span(0, 2))
	wantRanges(t, "one that is set ahead of what reads it", fn(1, regs(0), 1, block(answer(0), show(zero), li(0, 1))), span(0, 3))
	wantRanges(t, "one register twice", fn(3, regs(2, 0, 2), 1, block(answer(2))), span(0, 0), unused(), span(0, 1))
	wantRanges(t, "one register eight times", fn(1, make([]int, api.MaxPass), 0, block(answer())), span(0, 0))
	wantRanges(t, "one that is read where nothing goes to", fn(1, regs(0), 0, block(answer()), block(answer(), show(0))), span(0, 3))
}

// TestCalls: a call counts just between From and To.
func TestCalls(t *testing.T) {
	nothing, g := show(zero), calls(nil, "g")
	for _, x := range []struct {
		what string
		want live.Range
		list []api.Low
	}{
		{"no call", span(1, 3), []api.Low{li(0, 1), nothing, show(0)}},
		{"between", around(1, 3), []api.Low{li(0, 1), g, show(0)}},
		{"just behind From", around(1, 4), []api.Low{li(0, 1), g, nothing, show(0)}},
		{"just ahead of To", around(1, 4), []api.Low{li(0, 1), nothing, g, show(0)}},
		{"at From", span(1, 3), []api.Low{calls(regs(0), "g"), nothing, show(0)}},
		{"at To", span(1, 3), []api.Low{li(0, 1), nothing, calls(nil, "g", 0)}},
		{"at To, which sets it", span(1, 3), []api.Low{li(0, 1), nothing, calls(regs(0), "g")}},
		{"at both", span(1, 2), []api.Low{calls(regs(0), "g"), calls(nil, "g", 0)}},
		{"at From, and between", around(1, 3), []api.Low{calls(regs(0), "g"), g, show(0)}},
		{"at To, and between", around(1, 3), []api.Low{li(0, 1), g, calls(nil, "g", 0)}},
		{"at one position alone", span(2, 2), []api.Low{nothing, calls(regs(0), "g"), nothing}},
		{"ahead of it", span(2, 3), []api.Low{g, li(0, 1), show(0)}},
		{"behind it", span(1, 2), []api.Low{li(0, 1), show(0), g}},
		{"ahead of it and behind it", span(2, 3), []api.Low{g, li(0, 1), show(0), g}},
		{"around both", around(0, 2), []api.Low{g, show(0)}},
		{"of a call that reads and sets it", around(1, 3), []api.Low{li(0, 1), calls(regs(0), "g", 0), show(0)}},
		{"of a call of itself", around(1, 3), []api.Low{li(0, 1), calls(nil, "f"), show(0)}},
		{"of nothing that is used", unused(), []api.Low{g, g, g}},
		{"in a hole", around(1, 5), []api.Low{li(0, 1), show(0), g, li(0, 1), show(0)}},
	} {
		wantRanges(t, x.what, fn(1, nil, 0, block(fail(), x.list...)), x.want)
	}
	wantRanges(t, "in another block", fn(1, nil, 1, block(branch(zero, "eq", zero, 1, 2), li(0, 1)), block(fail(), g), block(answer(0))), around(1, 7))
	wantRanges(t, "of a param, first", fn(2, regs(0, 1), 1, block(answer(0), g)), around(0, 2), span(0, 0))
	wantRanges(t, "where nothing goes to", fn(1, regs(0), 0, block(answer()), block(answer(), g, show(0))), around(0, 4))
	wantRanges(t, "of the least numbers", fn(1, nil, 0, block(answer(), g)), unused())
}

func TestMeet(t *testing.T) {
	const most, least = math.MaxInt, math.MinInt
	for _, x := range []struct {
		a, b live.Range
		want bool
	}{
		{span(1, 2), span(2, 3), false},
		{span(1, 3), span(2, 3), true},
		{span(1, 3), span(2, 4), true},
		{span(1, 9), span(4, 5), true},
		{span(1, 9), span(1, 9), true},
		{span(1, 2), span(3, 4), false},
		{span(1, 2), span(4, 5), false},
		{span(0, 0), span(0, 0), true},
		{span(0, 0), span(0, 5), true},
		{span(0, 0), span(1, 5), false},
		{span(5, 5), span(1, 5), false},
		{span(5, 5), span(5, 9), true},
		{span(5, 5), span(1, 9), true},
		{span(5, 5), span(4, 6), true},
		{span(5, 5), span(6, 6), false},
		{span(1, 1), span(1, 2), true},
		{unused(), unused(), false},
		{unused(), span(0, 5), false},
		{unused(), span(0, 0), false},
		{span(-1, 9), span(0, 5), false},
		{span(-1, 9), span(-1, 9), false},
		{span(-1, 9), span(-5, 9), false},
		{span(-2, 9), span(0, 5), true},
		{span(-2, -2), span(-2, -2), true},
		{span(-2, 0), span(-3, -1), true},
		{span(5, 1), span(5, 1), true},
		{span(5, 1), span(2, 9), false},
		{span(5, 1), span(0, 9), true},
		{span(9, -1), span(3, 5), false},
		{span(3, -1), span(3, 5), true},
		{span(least, most), span(0, 1), true},
		{span(least, most), span(least, most), true},
		{span(least, least), span(least, most), true},
		{span(least, least), span(most, most), false},
		{span(most, most), span(0, most), false},
		{span(most, least), span(least, most), false},
		{span(most-1, most), span(0, most), true},
		{span(least, least+1), span(least+1, 0), false},
		{span(least, -1), span(-1, most), false},
	} {
		for _, calls := range [][2]bool{{}, {true, false}, {false, true}, {true, true}} {
			a, b := x.a, x.b
			a.Calls, b.Calls = calls[0], calls[1]
			if live.Meet(a, b) != x.want || live.Meet(b, a) != x.want {
				t.Errorf("%v and %v: %v, %v, not %v", a, b, live.Meet(a, b), live.Meet(b, a), x.want)
			}
		}
	}
}

// TestMeetPlainly asks all small ranges, by what they share: a position with one behind it, or their beginning.
func TestMeetPlainly(t *testing.T) {
	for n := range 7 * 7 * 7 * 7 {
		a, b := span(n%7-1, n/7%7-1), span(n/49%7-1, n/343-1)
		if a.From > a.To || b.From > b.To || a.From != a.To && a.From == -1 || b.From != b.To && b.From == -1 {
			continue
		}
		want := a.From == b.From && a.From >= 0
		for at := 0; at < 6 && a.From >= 0 && b.From >= 0; at++ {
			// In halves: between two positions, or at one that is a whole range by itself within the other one.
			between := a.From <= at && at < a.To && b.From <= at && at < b.To
			alone := a == span(at, at) && b.From < at && at < b.To || b == span(at, at) && a.From < at && at < a.To
			want = want || between || alone
		}
		if got := live.Meet(a, b); got != want {
			t.Errorf("%v and %v: %v, not %v", a, b, got, want)
		}
	}
}
