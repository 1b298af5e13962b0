package shuffle

import (
	"math"
	"math/rand"
	"slices"
	"testing"
)

// P20.1: each fault, and several at one time.
func TestWrong(t *testing.T) {
	const spare = 9
	for _, l := range [][]Move{
		moves(1, 2, 1, 3),
		moves(1, 2, 1, 2),
		moves(1, 1, 1, 1),
		moves(1, 1, 1, 2),
		moves(1, 2, 1, 1),
		moves(1, 2, 2, 1, 1, 3),
		moves(1, 2, 2, 1, 2, 1),
		moves(1, 2, 3, 4, 5, 6, 1, 7),
		moves(-1, 2, -1, 3),
		moves(math.MinInt, 2, math.MinInt, 2),
		moves(math.MaxInt, 2, 3, 4, math.MaxInt, 5),
		moves(spare, 1),
		moves(1, spare),
		moves(spare, spare),
		moves(1, 2, 2, 3, 3, spare),
		moves(spare, 1, 1, 2, 2, 3),
		moves(1, 2, 2, 1, 3, spare),
		moves(1, 2, 2, 1, spare, 1),
		moves(1, 2, 2, 1, spare, spare),
		moves(1, spare, spare, 1),
		moves(1, 2, 1, 3, spare, 4),
		moves(1, spare, 1, spare),
		moves(spare, 1, spare, 2),
		moves(spare, spare, spare, spare),
	} {
		for range l {
			refused(t, l, spare)
			l = append(slices.Clone(l[1:]), l[0])
		}
	}
	for _, spare := range []int{math.MinInt, -1, 0, math.MaxInt} {
		refused(t, moves(spare, 5), spare)
		refused(t, moves(5, spare), spare)
		refused(t, moves(spare, spare), spare)
		byWords(t, moves(5, 6, 6, 5), spare)
	}
}

// P20.1: two moves of one To at any distance, with the same From, with another one, and of the place to itself.
func TestTwice(t *testing.T) {
	const many = 30
	r := rand.New(rand.NewSource(201))
	for first := range many {
		for second := first + 1; second < many; second++ {
			l := mixed(r, manyOf(r, many))
			for _, from := range []int{l[first].From, l[first].To, l[second].From, 500, -500} {
				twice := slices.Clone(l)
				twice[second] = Move{l[first].To, from}
				refused(t, twice, 1000)
			}
			byWords(t, l, 1000)
		}
	}
}

// P20.1: the spare place as a To, as a From, and as both, at each place of a list.
func TestSpareWithin(t *testing.T) {
	const many = 40
	r := rand.New(rand.NewSource(202))
	for at := range many {
		l := mixed(r, manyOf(r, many))
		for _, m := range []Move{{1000, l[at].From}, {l[at].To, 1000}, {1000, 1000}} {
			wrong := slices.Clone(l)
			wrong[at] = m
			refused(t, wrong, 1000)
			byWords(t, wrong, 1001)
			wrong[r.Intn(many)] = Move{1000, 1000}
			wrong = append(wrong, wrong[r.Intn(many)])
			refused(t, wrong, 1000)
		}
		byWords(t, l, 1000)
	}
}

// manyOf makes moves of so many Tos from 0 on, made by chance.
func manyOf(r *rand.Rand, many int) []Move {
	l := make([]Move, many)
	for to := range l {
		l[to] = Move{to, r.Intn(many + 3)}
	}
	return l
}
