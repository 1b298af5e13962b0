package shuffle

import (
	"math/rand"
	"slices"
	"testing"
)

// many is how many moves are very many: squares of it are too long.
const many = 200000

// made makes very many moves, each To with what from tells of it.
func made(from func(to int) int) []Move {
	l := make([]Move, many)
	for to := range l {
		l[to] = Move{to, from(to)}
	}
	return l
}

// P20.1, P20.2: very many moves are told, too, in whatever order they stand.
func TestMany(t *testing.T) {
	r := rand.New(rand.NewSource(2000))
	for _, s := range []struct {
		name    string
		l       []Move
		circles int
	}{
		{"a chain", made(func(to int) int { return to + 1 }), 0},
		{"a circle", made(func(to int) int { return (to + 1) % many }), 1},
		{"circles of two", made(func(to int) int { return to ^ 1 }), many / 2},
		{"circles of a hundred", made(func(to int) int { return to - to%100 + (to+1)%100 }), many / 100},
		{"one to many", made(func(to int) int { return many }), 0},
		{"a circle of two that fills all others", made(func(to int) int { return 1 - to&1 }), 1},
		{"a tree", made(func(to int) int { return to/2 - 1 }), 0},
		{"places to themselves", made(func(to int) int { return to }), 0},
		{"every other one to itself", made(func(to int) int { return to + to&1 }), 0},
	} {
		back := slices.Clone(s.l)
		slices.Reverse(back)
		for _, l := range [][]Move{s.l, back, mixed(r, s.l)} {
			held(t, l, -5, s.circles)
		}
	}
}

// P20.1: a fault among very many moves is seen.
func TestManyWrong(t *testing.T) {
	l := made(func(to int) int { return (to + 1) % many })
	l[many-1].To = 0
	refused(t, l, -5)
	l[many-1].To = many - 1
	refused(t, l, many-1)
	refused(t, l, 0)
	l[many/2].From = -5
	refused(t, l, -5)
}

// P20.1, P20.2: very many moves made by chance; the circles of such as only change their places are counted by going round each once.
func TestManyByChance(t *testing.T) {
	r := rand.New(rand.NewSource(2001))
	for range 3 {
		order := r.Perm(many)
		seen := make([]bool, many)
		n := 0
		for first := range order {
			if !seen[first] && order[first] != first {
				n++
			}
			for place := first; !seen[place]; place = order[place] {
				seen[place] = true
			}
		}
		held(t, mixed(r, made(func(to int) int { return order[to] })), many, n)
	}
	for range 3 {
		byWords(t, byChance(r, -3000, 6000, 6000), 4000)
	}
}
