package graph

import "testing"

// many is how many blocks are very many: calls could not stand within one another so deep, and squares of it are too long.
const many = 300000

// line tells blocks of which each goes to the next one and to what more says.
func line(n int, more func(i int) []int) [][]int {
	to := make([][]int, n)
	for i := range to {
		to[i] = append(to[i], i+1)
		to[i] = append(to[i], more(i)...)
	}
	return to
}

// tryMany holds Reach, Order and Doms of blocks that can all be come to against what is told of each place in Order and each block.
func tryMany(t *testing.T, name string, to [][]int, order, dom func(i int) int) {
	t.Helper()
	reach, got, doms := Reach(len(to), to), Order(len(to), to), Doms(len(to), to)
	if len(reach) != len(to) || len(got) != len(to) || len(doms) != len(to) {
		t.Fatalf("%s: %d, %d, %d of %d", name, len(reach), len(got), len(doms), len(to))
	}
	for i := range to {
		if !reach[i] || got[i] != order(i) || doms[i] != dom(i) {
			t.Fatalf("%s: %d: %v, %d, %d", name, i, reach[i], got[i], doms[i])
		}
	}
}

// P11.1, P11.2, P11.3: very many blocks are no matter.
func TestMany(t *testing.T) {
	same := func(i int) int { return i }
	ahead := func(i int) int { return i - 1 }
	tryMany(t, "line", line(many, func(int) []int { return nil }), same, ahead)
	tryMany(t, "line, and back to the block 0", line(many, func(int) []int { return []int{0} }), same, ahead)
	tryMany(t, "line, and back to the one ahead", line(many, func(i int) []int { return []int{i - 1} }), same, ahead)
	tryMany(t, "loops within loops", line(many, func(i int) []int {
		if i < many/2 {
			return nil
		}
		return []int{many - i}
	}), same, ahead)
	first := func(i int) int { return min(i-1, 0) }
	tryMany(t, "line, and on by two", line(many, func(i int) []int { return []int{i + 2} }), same, first)
	all := make([]int, many)
	for i := range all {
		all[i] = i
	}
	star := make([][]int, many)
	star[0] = all
	tryMany(t, "one goes to all", star, func(i int) int {
		if i == 0 {
			return 0
		}
		return many - i
	}, first)
}

// P11.3: what goes across a line, from either end to the other, makes long ways that must not be gone again and again.
func TestManyAcross(t *testing.T) {
	to := line(many, func(i int) []int { return []int{many - i} })
	for i, dom := range Doms(many, to) {
		want := i - 1
		if i > many/2 {
			want = many - i
		}
		if dom != want {
			t.Fatalf("%d: %d, want %d", i, dom, want)
		}
	}
}

// P11.1: From of very many, each gone to by few, and of one that is gone to by all.
func TestManyFrom(t *testing.T) {
	from := From(many, line(many, func(int) []int { return []int{0, 0} }))
	if len(from) != many || len(from[0]) != many {
		t.Fatalf("%d, %d", len(from), len(from[0]))
	}
	for i, b := range from[0] {
		if b != i {
			t.Fatalf("%d at %d", b, i)
		}
	}
	for i := 1; i < many; i++ {
		if len(from[i]) != 1 || from[i][0] != i-1 {
			t.Fatalf("%d: %v", i, from[i])
		}
	}
}
