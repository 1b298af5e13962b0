package graph

import (
	"math/rand"
	"slices"
	"testing"
)

// P11.1, P11.2, P11.3: each call held against its definition at every three blocks that go to at most two numbers each.
func TestAllOfThree(t *testing.T) {
	var lists [][]int
	for a := -1; a <= 3; a++ {
		lists = append(lists, []int{a})
		for b := -1; b <= 3; b++ {
			lists = append(lists, []int{a, b})
		}
	}
	lists = append(lists, nil)
	for _, a := range lists {
		for _, b := range lists {
			for _, c := range lists {
				byWords(t, 3, [][]int{a, b, c})
			}
		}
	}
}

// The same at every four blocks, where each goes to any set of them, named rising.
func TestAllOfFour(t *testing.T) {
	for bits := range 1 << 16 {
		to := make([][]int, 4)
		for k := range 16 {
			if bits>>k&1 == 1 {
				to[k/4] = append(to[k/4], k%4)
			}
		}
		byWords(t, 4, to)
	}
}

// The same at blocks made by chance.
func TestChance(t *testing.T) {
	r := rand.New(rand.NewSource(11))
	for range 20000 {
		n, to := byChance(r, 13)
		byWords(t, n, to)
		if t.Failed() {
			return
		}
	}
	for range 200 {
		n, to := byChance(r, 60)
		byWords(t, n, to)
	}
}

// P11.4: each block stands behind its Doms; one that comes to one ahead of it, or to itself, can be come to from that one.
func TestOrderAndDoms(t *testing.T) {
	r := rand.New(rand.NewSource(114))
	for range 3000 {
		n, to := byChance(r, 20)
		order, doms, reach := Order(n, to), Doms(n, to), Reach(n, to)
		is := goes(n, to)
		place := make([]int, len(is))
		for i := range place {
			place[i] = -1
		}
		for p, b := range order {
			if place[b] >= 0 {
				t.Fatalf("%d %v: %d stands twice in %v", n, to, b, order)
			}
			place[b] = p
		}
		for b := range is {
			if reach[b] != (place[b] >= 0) || (doms[b] >= 0) != (reach[b] && b > 0) {
				t.Fatalf("%d %v: %d: reached %v, place %d, dom %d", n, to, b, reach[b], place[b], doms[b])
			}
			if doms[b] >= 0 && place[doms[b]] >= place[b] {
				t.Fatalf("%d %v: %d does not stand behind its dom %d: %v", n, to, b, doms[b], order)
			}
			for next := range is {
				if reach[b] && is[b][next] && place[next] <= place[b] && !comesTo(is, next, -1)[b] {
					t.Fatalf("%d %v: %d comes to %d ahead of it and does not go round: %v", n, to, b, next, order)
				}
			}
		}
	}
}

// What is handed in stays as it was, its spare room too; what lies behind a list's length is not read; no memory is shared.
func TestMemory(t *testing.T) {
	r := rand.New(rand.NewSource(4))
	for range 2000 {
		n, plain := byChance(r, 9)
		to, whole := withSpare(r, n, plain)
		before := copyOf(whole)
		reach, order, from, doms := Reach(n, to), Order(n, to), From(n, to), Doms(n, to)
		if !sameLists(whole, before) || !sameLists(to, plain) {
			t.Fatalf("%d %v was changed", n, plain)
		}
		if !slices.Equal(reach, Reach(n, plain)) || !slices.Equal(order, Order(n, plain)) || !sameLists(from, From(n, plain)) || !slices.Equal(doms, Doms(n, plain)) {
			t.Fatalf("%d %v: spare room tells", n, plain)
		}
		for k := range from {
			want := copyOf(from)
			spoil(from[k])
			want[k] = from[k]
			if !sameLists(from, want) {
				t.Fatalf("%d %v: two lists of From share memory", n, plain)
			}
		}
		spoil(order)
		spoil(doms)
		if !sameLists(whole, before) || !sameLists(to, plain) {
			t.Fatalf("%d %v is shared with an answer", n, plain)
		}
		byWords(t, n, to)
	}
}

// withSpare is to with spare room behind its own end and each list's, in which other ways stand; whole is all of the memory.
func withSpare(r *rand.Rand, n int, plain [][]int) (to, whole [][]int) {
	to = make([][]int, len(plain), len(plain)+3)
	for i := range to[:cap(to)] {
		var list []int
		if i < len(plain) {
			list = append(list, plain[i]...)
		}
		length := len(list)
		for range 3 {
			list = append(list, r.Intn(n+1))
		}
		whole = append(whole, list)
		to[:cap(to)][i] = list[:length]
		if i >= len(plain) {
			to[:cap(to)][i] = list
		}
	}
	return to, whole
}

// spoil writes over a list and its spare room.
func spoil(l []int) {
	l = l[:cap(l)]
	for i := range l {
		l[i] = -77
	}
}
