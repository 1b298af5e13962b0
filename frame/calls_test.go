package frame_test

import (
	"fmt"
	"math/rand"
	"testing"

	"ferrule/api"
)

// P26.3: calls, with what they pass and answer, and how many may be under way.

// passing is a main that calls f, and f, which answers what it was passed, with the words in some order: args tells which of main's registers are passed, params where they come to, back what is answered, dsts where it comes to.
func passing(args, params, back, dsts []int) []api.LowFunc {
	const many = 12
	var list []api.Low
	for k := range many {
		list = append(list, li(k, 100+k))
	}
	list = append(list, calls(dsts, "f", args...))
	for k := range many {
		list = append(list, show(k))
	}
	var inside []api.Low
	for _, reg := range params {
		inside = append(inside, show(reg))
	}
	inside = append(inside, calls(nil, "g"))
	f := fn("f", many, params, len(back), 0, block(answer(back...), inside...))
	g := fn("g", 9, regs(3), 0, 1, block(answer(), show(3), li(0, 5), sw(within, 0, 0)))
	g.Params = nil
	return []api.LowFunc{starts(many, 0, list...), f, g}
}

func TestPassAndAnswer(t *testing.T) {
	t.Parallel()
	first := regs(0, 1, 2, 3, 4, 5, 6, 7)
	turned := regs(1, 2, 3, 4, 5, 6, 7, 0)
	swapped := regs(7, 6, 5, 4, 3, 2, 1, 0)
	twice := regs(3, 3, 1, 1, 3, 0, 0, 3)
	zeros := regs(0, zero, 2, zero, zero, 5, 6, zero)
	for many := range api.MaxPass + 1 {
		for k, l := range [][4][]int{
			{first, first, first, first}, {turned, first, turned, first}, {first, turned, first, turned}, {swapped, turned, swapped, first},
			{twice, first, twice, first}, {zeros, swapped, zeros, turned}, {first, first, twice, swapped}, {swapped, swapped, swapped, swapped},
		} {
			for _, c := range []crowd{{}, {3, false, 1}, {5, true, 2}, {8, false, 0}, {11, true, 7}, {14, false, 4}, {16, true, 9}} {
				hold(t, fmt.Sprint(many, " words, way ", k, c), c.all(passing(l[0][:many], l[1][:many], l[2][:many], l[3][:many]))...)
			}
		}
	}
}

// What is passed into one register, or comes into one, more than once: the last of them counts.
func TestOneRegisterMoreThanOnce(t *testing.T) {
	comes(t, "passed twice", exit(2), starts(2, 0, li(0, 1), li(1, 2), calls(nil, "f", 0, 1)), fn("f", 1, regs(0, 0), 0, 0, block(answer(), show(0))))
	comes(t, "answered twice", exit(6), starts(1, 0, calls(regs(0, 0), "f"), show(0)), fn("f", 2, nil, 2, 0, block(answer(0, 1), li(0, 5), li(1, 6))))
	for _, l := range [][4][]int{{regs(0, 1, 2), regs(4, 4, 4), regs(1, 4, 2), regs(7, 7, 7)}, {regs(0, 1, 2, 3), regs(2, 1, 2, 1), regs(2, 1), regs(0, 0)}, {regs(9, 8, 7, 6, 5, 4, 3, 2), regs(1, 2, 3, 1, 2, 3, 1, 2), regs(1, 2, 3, 1, 2, 3, 1, 2), regs(4, 5, 6, 6, 5, 4, 6, 5)}} {
		holdCrowded(t, fmt.Sprint(l), nil, passing(l[0], l[1], l[2], l[3])...)
	}
}

func TestPassByChance(t *testing.T) {
	t.Parallel()
	r := rand.New(rand.NewSource(26))
	some := func(many int) []int {
		var out []int
		for range many {
			out = append(out, r.Intn(12))
		}
		return out
	}
	for range 400 {
		in, out := r.Intn(api.MaxPass+1), r.Intn(api.MaxPass+1)
		l := passing(some(in), some(in), some(out), some(out))
		c := crowd{r.Intn(18), r.Intn(2) == 0, r.Intn(12)}
		hold(t, fmt.Sprint("by chance ", l), c.all(l)...)
	}
}

// Registers, and words of frames, are 0 when a call begins, whatever calls ahead of it left there.
func TestZeroAtFirst(t *testing.T) {
	comes(t, "a register", exit(0), starts(1, 0, show(0)))
	comes(t, "a word", exit(0), starts(1, 1, lw(0, within, 0), show(0)))
	var fills, shows, words []api.Low
	for k := range 24 {
		fills = append(fills, li(k, -1-k))
		shows = append(shows, show(k))
		words = append(words, lw(0, within, 4*k), show(0))
	}
	for k := range 24 {
		fills = append(fills, sw(within, 4*k, k))
	}
	fills = append(fills, shows...)
	filled := fn("filled", 24, nil, 8, 24, block(answer(0, 1, 2, 3, 4, 5, 6, 7), fills...))
	plain := fn("plain", 24, nil, 0, 0, block(answer(), shows...))
	frames := fn("frames", 1, nil, 0, 24, block(answer(), words...))
	both := fn("both", 24, nil, 0, 24, block(answer(), append(shows, words...)...))
	into := regs(0, 1, 2, 3, 4, 5, 6, 7)
	main := starts(8, 0, calls(into, "filled"), calls(nil, "plain"), calls(into, "filled"), calls(nil, "frames"), calls(into, "filled"), calls(nil, "both"))
	holdCrowded(t, "registers and words", nil, main, filled, plain, frames, both)
	byAddress := fn("by", 2, nil, 0, 24, block(answer(), imm(0, within, "add", 40), lw(1, 0, 8), show(1), lw(1, 0, -40), show(1)))
	holdCrowded(t, "words by an address", nil, starts(8, 0, calls(into, "filled"), calls(nil, "by")), filled, byAddress)
	some := fn("some", 3, regs(1), 1, 2, block(branch(1, "eq", zero, 1, 2)), block(jump(2), li(0, 5), sw(within, 4, 0)), block(answer(0), lw(2, within, 4), show(0), show(2)))
	holdCrowded(t, "on some way", nil, starts(8, 0, calls(into, "filled"), li(0, 0), calls(regs(0), "some", 0), show(0), calls(into, "filled"), li(0, 1), calls(regs(0), "some", 0), show(0)), filled, some)
}

// More values over a call than kept registers, and than registers: each is what it was.
func TestManyOverCalls(t *testing.T) {
	for many := range 40 {
		var list []api.Low
		for k := range many {
			list = append(list, li(k, 7*k+1))
		}
		list = append(list, calls(nil, "f"))
		for k := range many {
			list = append(list, show(k))
		}
		f := together(min(many+3, 30), false, 3)
		hold(t, fmt.Sprint(many, " over a call"), starts(many, 2, list...), f)
	}
}

// down is a function that calls itself as often as it is passed, and prints.
func down(name string) api.LowFunc {
	return fn(name, 2, regs(0), 1, 0,
		block(branch(0, "eq", zero, 2, 1)),
		block(answer(0), imm(1, 0, "add", -1), calls(regs(1), name, 1), bin(0, 0, "add", 1)),
		block(answer(0), show(0)))
}

func startsDown(times ...int) api.LowFunc {
	var list []api.Low
	for _, n := range times {
		list = append(list, li(0, n), calls(regs(0), "f", 0), show(0))
	}
	return starts(1, 0, list...)
}

func TestMaxDepth(t *testing.T) {
	comes(t, "48 under way", exit(0, 1081), startsDown(46), down("f"))
	comes(t, "49 under way", outcome(api.OutDepth, 0), startsDown(47), down("f"))
	comes(t, "behind some that ended", exit(0, 0, 0, 1081, 0, 1081), startsDown(0, 46, 46), down("f"))
	comes(t, "one more behind some that ended", outcome(api.OutDepth, 0, 0, 1081, 0, 1), startsDown(46, 1, 47, 3), down("f"))
	holdCrowded(t, "48 under way", nil, startsDown(3, 46, 2, 46, 47), down("f"))
	comes(t, "main calls itself", outcome(api.OutDepth, 0), starts(0, 0, calls(nil, "main")))
	var want []int
	for k := range 48 {
		want = append(want, k+1)
	}
	up := fn("main", 1, nil, 0, 1, block(answer(), read(0), show(0), calls(nil, "main")))
	r := begin(t, "calls under way", want, []api.LowFunc{up})
	if got, _ := r.Run(plenty); !alike(got, outcome(api.OutDepth, 0, want...)) || r.Reg(27) != 48 {
		t.Fatal(told(got), r.Reg(27))
	}
	sometimes := fn("main", 1, nil, 0, 0, block(branch(0, "eq", zero, 1, 2), read(0), show(0)), block(answer(), li(0, -1), show(0)), block(jump(1), calls(nil, "main")))
	for n := range 60 {
		ones := make([]int, n)
		for k := range ones {
			ones[k] = k + 1
		}
		holdWith(t, fmt.Sprint(n, " calls of main"), plenty, ones, sometimes)
	}
}

// x27 counts those under way that are not Quiet, wherever a run stops.
func TestCounts(t *testing.T) {
	for n := range 47 {
		f := down("f")
		f.Blocks[2] = block(fail())
		r := begin(t, "counted", nil, []api.LowFunc{startsDown(n), f})
		if got, _ := r.Run(plenty); !alike(got, failed()) || r.Reg(27) != n+2 {
			t.Fatal(n, told(got), r.Reg(27))
		}
		r = begin(t, "counted", nil, []api.LowFunc{startsDown(n), quiet(f)})
		if got, _ := r.Run(plenty); !alike(got, failed()) || r.Reg(27) != 1 {
			t.Fatal(n, told(got), r.Reg(27))
		}
	}
}

// Quiet calls are not counted among the 48; of all kinds 392 may be under way.
func TestQuietCalls(t *testing.T) {
	f := quiet(down("f"))
	for _, n := range []int{46, 47, 48, 49, 100, 200, 300, 389, 390} {
		comes(t, "quiet ones", exit(0, n*(n+1)/2), startsDown(n), f)
	}
	comes(t, "one more than may be", outcome(api.OutDepth, 0), startsDown(391), f)
	comes(t, "behind some that ended", outcome(api.OutDepth, 0, 0, 390*391/2, 0, 390*391/2), startsDown(390, 390, 391), f)
	holdCrowded(t, "quiet ones", nil, startsDown(200, 1), f)
	comes(t, "a quiet main", exit(0, 391*392/2-391), quiet(startsDown(390)), f)
	comes(t, "a quiet main that calls itself", outcome(api.OutDepth, 0), quiet(starts(0, 0, calls(nil, "main"))))
}

// chain calls n loud ones within one another, the last of which calls m quiet ones within one another.
func chain(n, m int) []api.LowFunc {
	loud := fn("f", 3, regs(0, 1), 0, 0, block(branch(0, "eq", zero, 2, 1)), block(answer(), imm(2, 0, "add", -1), calls(nil, "f", 2, 1), show(0)), block(answer(), calls(nil, "q", 1)))
	q := quiet(fn("q", 2, regs(0), 0, 0, block(branch(0, "eq", zero, 2, 1)), block(answer(), imm(1, 0, "add", -1), calls(nil, "q", 1)), block(answer(), show(0))))
	return []api.LowFunc{starts(2, 0, li(0, n), li(1, m), calls(nil, "f", 0, 1), show(1)), loud, q}
}

// Loud calls, and quiet ones within them, as many as may be and one more.
func TestLoudAndQuiet(t *testing.T) {
	for _, n := range []int{0, 1, 20, 45, 46, 47} {
		for more := -1; more <= 1; more++ {
			want := api.OutExit
			if n > 46 || more > 0 {
				want = api.OutDepth
			}
			m := 392 - (n + 2) - 1 + more
			if o := hold(t, fmt.Sprint(n, " and ", m), chain(n, m)...); o.Kind != want {
				t.Fatal(n, m, told(o))
			}
		}
	}
}

// Quiet ones that call loud ones: each kind's bound, whichever is come to first.
func TestQuietThenLoud(t *testing.T) {
	for _, per := range []int{1, 2, 5, 7, 8, 9, 12, 16, 22} { // of 16 and 22 the one that is too many is a loud one
		for _, last := range []int{15, 16, 17, 18, 21, 22, 23, 24, 30, 40, 44, 45, 46, 47, 48, 49, 60} {
			loud := fn("f", 1, regs(0), 0, 0, block(branch(0, "eq", zero, 2, 1), imm(0, 0, "add", -1)), block(answer(), calls(nil, "q1", 0), show(0)), block(answer(), show(0)))
			l := []api.LowFunc{starts(1, 0, li(0, last), calls(nil, "f", 0), show(0), li(0, 3), calls(nil, "f", 0)), loud}
			for k := 1; k <= per; k++ {
				next := fmt.Sprint("q", k+1)
				if k == per {
					next = "f"
				}
				l = append(l, quiet(fn(fmt.Sprint("q", k), 1, regs(0), 0, 0, block(answer(), calls(nil, next, 0)))))
			}
			l = append(l, quiet(fn("z", 0, nil, 0, 0, block(answer(), calls(nil, "z")))))
			hold(t, fmt.Sprint(per, " quiet ones for each, ", last), l...)
		}
	}
}

// Frames are where they must be, however many are under way.
func TestFramesWithinCalls(t *testing.T) {
	t.Parallel()
	f := fn("f", 3, regs(0), 1, 40,
		block(branch(0, "eq", zero, 2, 1), sw(within, 156, 0), sw(within, 0, 0)),
		block(answer(1), imm(1, 0, "add", -1), calls(regs(1), "f", 1), lw(2, within, 156), bin(1, 1, "add", 2), lw(2, within, 0), bin(1, 1, "add", 2), show(1)),
		block(answer(0)))
	for _, n := range []int{0, 1, 5, 46, 47} {
		l := []api.LowFunc{starts(2, 30, li(0, n), sw(within, 116, 0), calls(regs(1), "f", 0), lw(0, within, 116), show(0), show(1)), f}
		holdCrowded(t, "frames", nil, l...)
		holdCrowded(t, "frames of quiet ones", nil, l[0], quiet(l[1]))
	}
	big := f
	big.Frame = 490
	hold(t, "frames as big as can be, as many as can be", starts(1, 490, li(0, 46), calls(regs(0), "f", 0), show(0)), big)
	hold(t, "one more", starts(1, 490, li(0, 47), calls(regs(0), "f", 0), show(0)), big)
}

// Names may be anything, also those that lines have of their own.
func TestNames(t *testing.T) {
	for _, name := range []string{"", " ", "f", "f0", "f1", "f0.0", "f1.end", "exit", "panic", "deep", "main ", "Main", "\x00", "é", "\xff\xfe", "a\nb", "x:", "f2.1"} {
		f := fn(name, 1, regs(0), 1, 0, block(jump(1)), block(answer(0), imm(0, 0, "add", 1)))
		comes(t, "named "+name, exit(5), starts(1, 0, li(0, 4), calls(regs(0), name, 0), show(0)), f)
		comes(t, "named "+name+", ahead", exit(5), f, starts(1, 0, li(0, 4), calls(regs(0), name, 0), show(0)))
	}
	long := make([]byte, 100000)
	comes(t, "a long name", exit(5), starts(1, 0, li(0, 4), calls(regs(0), string(long), 0), show(0)), fn(string(long), 1, regs(0), 1, 0, block(answer(0), imm(0, 0, "add", 1))))
}

// Main may stand anywhere among the functions.
func TestWhereMainStands(t *testing.T) {
	others := []api.LowFunc{down("f"), quiet(down("g")), fn("h", 0, nil, 0, 3, block(answer()))}
	for at := range 4 {
		l := append(append(append([]api.LowFunc{}, others[:at]...), startsDown(3)), others[at:]...)
		comes(t, fmt.Sprint("main at ", at), exit(0, 6), l...)
	}
}
