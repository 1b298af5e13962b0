package graph

import (
	"math/rand"
	"slices"
	"testing"
)

// goes tells of each two of n blocks whether the first one goes to the second one, by the chapter's words.
func goes(n int, to [][]int) [][]bool {
	n = max(n, 0)
	is := make([][]bool, n)
	for i := range is {
		is[i] = make([]bool, n)
		if i < len(to) {
			for _, j := range to[i] {
				if j >= 0 && j < n {
					is[i][j] = true
				}
			}
		}
	}
	return is
}

// comesTo tells which blocks can be come to from the one at start, itself too, by ways on which without does not stand.
func comesTo(is [][]bool, start, without int) []bool {
	reached := make([]bool, len(is))
	if start < 0 || start >= len(is) || start == without {
		return reached
	}
	reached[start] = true
	for again := true; again; {
		again = false
		for i := range is {
			for j := range is {
				if reached[i] && is[i][j] && !reached[j] && j != without {
					reached[j], again = true, true
				}
			}
		}
	}
	return reached
}

func plainReach(n int, to [][]int) []bool { return comesTo(goes(n, to), 0, -1) }

func plainFrom(n int, to [][]int) [][]int {
	is := goes(n, to)
	from := make([][]int, len(is))
	for j := range is {
		for i := range is {
			if is[i][j] {
				from[j] = append(from[j], i)
			}
		}
	}
	return from
}

func plainOrder(n int, to [][]int) []int {
	entered := make([]bool, max(n, 0))
	var left []int
	var from func(i int)
	from = func(i int) {
		entered[i] = true
		if i < len(to) {
			for _, j := range to[i] {
				if j >= 0 && j < n && !entered[j] {
					from(j)
				}
			}
		}
		left = append(left, i)
	}
	if n > 0 {
		from(0)
	}
	slices.Reverse(left)
	return left
}

func plainDoms(t *testing.T, n int, to [][]int) []int {
	is := goes(n, to)
	reached := comesTo(is, 0, -1)
	onEvery := make([][]bool, len(is)) // onEvery[d][b]: d stands on every way from the block 0 to b
	for d := range is {
		onEvery[d] = make([]bool, len(is))
		for b, still := range comesTo(is, 0, d) {
			onEvery[d][b] = reached[b] && !still
		}
	}
	doms := make([]int, len(is))
	for b := range is {
		doms[b] = -1
		if b == 0 || !reached[b] {
			continue
		}
		for d := range is {
			if d == b || !onEvery[d][b] {
				continue
			}
			last := true
			for other := range is {
				if other != b && other != d && onEvery[other][b] && !onEvery[other][d] {
					last = false
				}
			}
			if last && doms[b] >= 0 {
				t.Fatalf("%d %v: %d has two doms", n, to, b)
			}
			if last {
				doms[b] = d
			}
		}
	}
	return doms
}

// sameLists holds lists of lists against each other; nil and empty are the same.
func sameLists(a, b [][]int) bool {
	return slices.EqualFunc(a, b, func(x, y []int) bool { return slices.Equal(x, y) })
}

// byWords holds all four calls against their definitions.
func byWords(t *testing.T, n int, to [][]int) {
	t.Helper()
	if got, want := Reach(n, to), plainReach(n, to); !slices.Equal(got, want) {
		t.Errorf("Reach(%d, %v) = %v, want %v", n, to, got, want)
	}
	if got, want := From(n, to), plainFrom(n, to); !sameLists(got, want) {
		t.Errorf("From(%d, %v) = %v, want %v", n, to, got, want)
	}
	if got, want := Order(n, to), plainOrder(n, to); !slices.Equal(got, want) {
		t.Errorf("Order(%d, %v) = %v, want %v", n, to, got, want)
	}
	if got, want := Doms(n, to), plainDoms(t, n, to); !slices.Equal(got, want) {
		t.Errorf("Doms(%d, %v) = %v, want %v", n, to, got, want)
	}
}

// byChance makes blocks: sometimes fewer or more lists than n, lists that are nil, numbers that are no blocks, some twice.
func byChance(r *rand.Rand, most int) (int, [][]int) {
	n := r.Intn(most + 1)
	lists := n
	if r.Intn(4) == 0 {
		lists = max(0, n+r.Intn(5)-2)
	}
	ways := 1 + r.Intn(4)
	wild := r.Intn(3) == 0
	to := make([][]int, lists)
	for i := range to {
		for range r.Intn(ways + 1) {
			j := r.Intn(n + 1)
			switch {
			case wild && r.Intn(5) == 0:
				j = r.Intn(2*n+9) - n - 4
			case r.Intn(3) == 0:
				j = i + 1 // so that lines come about, which chance alone makes seldom
			}
			to[i] = append(to[i], j)
		}
	}
	return n, to
}

// copyOf is new memory of the same.
func copyOf(to [][]int) [][]int {
	c := make([][]int, len(to))
	for i := range to {
		c[i] = slices.Clone(to[i])
	}
	return c
}
