package shuffle

import (
	"math"
	"math/rand"
	"slices"
	"testing"

	"ferrule/api"
)

// P20.1, P20.2: the chapter's examples.
func TestExamples(t *testing.T) {
	const a, b, c, spare = 1, 2, 3, 9
	if told := byWords(t, moves(a, b, b, a), spare); len(told) != 3 {
		t.Error(told)
	}
	for _, l := range [][]Move{moves(a, b, c, a), moves(c, a, a, b)} {
		if told := byWords(t, l, spare); !slices.Equal(told, moves(c, a, a, b)) {
			t.Error(l, told)
		}
	}
}

// shape is moves, and how many must be told: those that are needed, and one more for each circle.
type shape struct {
	name    string
	l       []Move
	most    int
	circles int
}

func shapes() []shape {
	const low, high = math.MinInt, math.MaxInt
	return []shape{
		{"no moves", nil, 0, 0},
		{"an empty list", []Move{}, 0, 0},
		{"one move", moves(1, 2), 1, 0},
		{"a place to itself", moves(4, 4), 0, 0},
		{"places to themselves", moves(4, 4, 5, 5, 0, 0, -1, -1), 0, 0},
		{"a chain whose end comes first", moves(1, 2, 2, 3, 3, 4, 4, 5), 4, 0},
		{"a chain whose end comes last", moves(4, 5, 3, 4, 2, 3, 1, 2), 4, 0},
		{"a chain in no order", moves(3, 4, 1, 2, 4, 5, 2, 3), 4, 0},
		{"a chain that begins at a place to itself", moves(1, 2, 2, 2, 3, 1), 2, 0},
		{"two chains", moves(1, 2, 11, 12, 2, 3, 12, 13), 4, 0},
		{"two chains of one place", moves(1, 2, 2, 3, 11, 12, 12, 3), 4, 0},
		{"one place to many", moves(1, 7, 2, 7, 3, 7, 4, 7), 4, 0},
		{"one place to many, and itself", moves(1, 7, 2, 7, 7, 7, 3, 7), 3, 0},
		{"one place to many, and filled itself", moves(1, 7, 7, 8, 2, 7, 3, 7), 4, 0},
		{"a tree", moves(1, 2, 2, 3, 4, 2, 5, 3, 6, 1, 8, 1), 6, 0},
		{"a circle of two", moves(1, 2, 2, 1), 3, 1},
		{"a circle of three", moves(1, 2, 2, 3, 3, 1), 4, 1},
		{"a circle of three the other way round", moves(1, 3, 3, 2, 2, 1), 4, 1},
		{"a circle of six", moves(1, 2, 2, 3, 3, 4, 4, 5, 5, 6, 6, 1), 7, 1},
		{"two circles", moves(1, 2, 2, 1, 3, 4, 4, 3), 6, 2},
		{"three circles, one in another", moves(1, 2, 3, 4, 5, 6, 4, 5, 6, 3, 2, 1, 7, 8, 8, 7), 11, 3},
		{"a circle, and a chain", moves(1, 2, 5, 6, 2, 1, 6, 7), 5, 1},
		{"a circle, and places to themselves", moves(0, 0, 1, 2, 5, 5, 2, 1, 3, 3), 3, 1},
		{"a circle that fills one more", moves(1, 2, 2, 1, 3, 1), 4, 1},
		{"a circle that fills one more, which comes first", moves(3, 2, 1, 2, 2, 1), 4, 1},
		{"a circle that fills one more at each place", moves(1, 2, 2, 3, 3, 1, 4, 1, 5, 2, 6, 3), 7, 1},
		{"a circle that fills chains", moves(11, 10, 10, 1, 1, 2, 2, 1, 21, 20, 20, 2, 12, 11), 8, 1},
		{"two circles that fill many", moves(1, 2, 2, 1, 3, 4, 4, 3, 5, 1, 6, 1, 7, 4, 8, 7), 10, 2},
		{"places below 0", moves(-1, -2, -2, -3, -3, -1, -4, -1), 5, 1},
		{"below 0 and above it", moves(-1, 1, 1, -1, 0, 1), 4, 1},
		{"both ends", moves(low, high, high, low, 0, low), 4, 1},
		{"both ends in a chain", moves(low, low+1, high, low, low+1, high-1), 3, 0},
		{"both ends to themselves", moves(low, low, high, high), 0, 0},
	}
}

// P20.1, P20.2: of each shape in its own order, backwards, from each of its moves on, and with moves of places to themselves in between.
func TestShapes(t *testing.T) {
	for _, s := range shapes() {
		t.Run(s.name, func(t *testing.T) {
			if n := movers(s.l) + s.circles; n != s.most || circles(s.l) != s.circles {
				t.Fatalf("%d, %d circles", n, circles(s.l))
			}
			back := slices.Clone(s.l)
			slices.Reverse(back)
			var with []Move
			for i, m := range s.l {
				with = append(with, Move{1000 + i, 1000 + i}, m)
			}
			for _, l := range [][]Move{s.l, back, with} {
				for from := range len(l) + 1 {
					told := byWords(t, slices.Concat(l[from:], l[:from]), 99)
					if len(told) != s.most {
						t.Fatalf("%v: %v", l, told)
					}
				}
			}
		})
	}
}

// P20.1, P20.2: the spare place may be any one that the moves do not have.
func TestSpare(t *testing.T) {
	spares := []int{math.MinInt, math.MinInt + 1, -7, -1, 0, 1, 7, math.MaxInt - 1, math.MaxInt}
	for _, s := range shapes() {
		for _, spare := range spares {
			if uses(s.l, spare) {
				refused(t, s.l, spare)
			} else {
				byWords(t, s.l, spare)
			}
		}
	}
}

// P20.1, P20.2: all moves among five places, each of them from any of these, from one more, or not a To at all; the spare one is at each end, and in the midst.
func TestAllOfFive(t *testing.T) {
	const many = 5
	choices := 1
	for range many {
		choices *= many + 2
	}
	for number := range choices {
		var l []Move
		rest := number
		for to := range many {
			if from := rest%(many+2) - 1; from >= 0 {
				l = append(l, Move{to, from})
			}
			rest /= many + 2
		}
		byWords(t, l, -1)
		slices.Reverse(l)
		byWords(t, l, many+1)
	}
}

// The same of four places in all orders.
func TestAllOrders(t *testing.T) {
	orders := ordersOf([]int{0, 1, 2, 3})
	for number := range 6 * 6 * 6 * 6 {
		for _, order := range orders {
			var l []Move
			for _, to := range order {
				rest := number
				for range to {
					rest /= 6
				}
				if from := rest%6 - 1; from >= 0 {
					l = append(l, Move{to, from})
				}
			}
			byWords(t, l, 7)
		}
	}
}

// ordersOf tells all orders of a list.
func ordersOf(l []int) [][]int {
	if len(l) == 0 {
		return [][]int{nil}
	}
	var all [][]int
	for i := range l {
		for _, rest := range ordersOf(slices.Concat(l[:i], l[i+1:])) {
			all = append(all, append([]int{l[i]}, rest...))
		}
	}
	return all
}

// P20.1, P20.2: moves made by chance, with places near 0, below it, and at both ends.
func TestChance(t *testing.T) {
	r := rand.New(rand.NewSource(20))
	firsts := []int{0, -5, -400, math.MinInt, math.MaxInt - 300, 1 << 32}
	for n := range 60000 {
		many := 1 + r.Intn(12)
		if n%20 == 0 {
			many = 1 + r.Intn(300)
		}
		first := firsts[r.Intn(len(firsts))]
		l := byChance(r, first, many, 1+r.Intn(many))
		spare := first + r.Intn(many+1)
		if uses(l, spare) {
			refused(t, l, spare)
			spare = first + many
		}
		byWords(t, l, spare)
	}
}

// P20.1: what is answered is the same whenever it is asked, whatever was asked in between.
func TestAgain(t *testing.T) {
	r := rand.New(rand.NewSource(5))
	for range 200 {
		l := byChance(r, -20, 60, 60)
		first := byWords(t, l, 77)
		for range 30 {
			byWords(t, byChance(r, -20, 60, 60), 77)
			if again, e := Line(l, 77); e != api.OK || !slices.Equal(again, first) {
				t.Fatalf("%v: %v, then %v", l, first, again)
			}
		}
	}
}
