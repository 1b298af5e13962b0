package graph

import (
	"slices"
	"testing"
)

// shape is blocks, and what the four calls answer of them.
type shape struct {
	name  string
	n     int
	to    [][]int
	reach string // a letter a block: y or n
	from  [][]int
	order []int
	doms  []int
}

func letters(l []bool) string {
	s := ""
	for _, is := range l {
		if is {
			s += "y"
		} else {
			s += "n"
		}
	}
	return s
}

func try(t *testing.T, s shape) {
	t.Helper()
	if got := letters(Reach(s.n, s.to)); got != s.reach {
		t.Errorf("%s: Reach = %s, want %s", s.name, got, s.reach)
	}
	if got := From(s.n, s.to); !sameLists(got, s.from) {
		t.Errorf("%s: From = %v, want %v", s.name, got, s.from)
	}
	if got := Order(s.n, s.to); !slices.Equal(got, s.order) {
		t.Errorf("%s: Order = %v, want %v", s.name, got, s.order)
	}
	if got := Doms(s.n, s.to); !slices.Equal(got, s.doms) {
		t.Errorf("%s: Doms = %v, want %v", s.name, got, s.doms)
	}
	byWords(t, s.n, s.to)
}

// P11.1, P11.2, P11.3 at ordinary blocks.
func TestShapes(t *testing.T) {
	for _, s := range []shape{
		{"the chapter's", 4, [][]int{{1, 2}, {3}, {3}, {}},
			"yyyy", [][]int{{}, {0}, {0}, {1, 2}}, []int{0, 2, 1, 3}, []int{-1, 0, 0, 0}},
		{"line", 4, [][]int{{1}, {2}, {3}, {}},
			"yyyy", [][]int{{}, {0}, {1}, {2}}, []int{0, 1, 2, 3}, []int{-1, 0, 1, 2}},
		{"line that falls", 4, [][]int{{3}, {}, {1}, {2}},
			"yyyy", [][]int{{}, {2}, {3}, {0}}, []int{0, 3, 2, 1}, []int{-1, 2, 3, 0}},
		{"two forks, one behind the other", 7, [][]int{{1, 2}, {3}, {3}, {4, 5}, {6}, {6}, {}},
			"yyyyyyy", [][]int{{}, {0}, {0}, {1, 2}, {3}, {3}, {4, 5}}, []int{0, 2, 1, 3, 5, 4, 6}, []int{-1, 0, 0, 0, 3, 3, 3}},
		{"fork whose side ends", 4, [][]int{{1, 2}, {}, {3}, {}},
			"yyyy", [][]int{{}, {0}, {0}, {2}}, []int{0, 2, 3, 1}, []int{-1, 0, 0, 2}},
		{"loop", 4, [][]int{{1}, {2, 3}, {1}, {}},
			"yyyy", [][]int{{}, {0, 2}, {1}, {1}}, []int{0, 1, 3, 2}, []int{-1, 0, 1, 1}},
		{"loop within a loop", 6, [][]int{{1}, {2, 5}, {3, 4}, {2}, {1}, {}},
			"yyyyyy", [][]int{{}, {0, 4}, {1, 3}, {2}, {2}, {1}}, []int{0, 1, 5, 2, 4, 3}, []int{-1, 0, 1, 2, 2, 1}},
		{"loop that is entered at two places", 4, [][]int{{1, 2}, {2, 3}, {1}, {}},
			"yyyy", [][]int{{}, {0, 2}, {0, 1}, {1}}, []int{0, 1, 3, 2}, []int{-1, 0, 0, 1}},
		{"blocks that go to themselves", 3, [][]int{{0, 1}, {1, 2}, {2}},
			"yyy", [][]int{{0}, {0, 1}, {1, 2}}, []int{0, 1, 2}, []int{-1, 0, 1}},
		{"blocks that can't be come to go to some that can", 6, [][]int{{1}, {2}, {}, {1, 4}, {3, 2}, {5, 0}},
			"yyynnn", [][]int{{5}, {0, 3}, {1, 4}, {4}, {3}, {5}}, []int{0, 1, 2}, []int{-1, 0, 1, -1, -1, -1}},
		{"way past a side in at its midst", 6, [][]int{{1, 4}, {2}, {3}, {5}, {3}, {}},
			"yyyyyy", [][]int{{}, {0}, {1}, {2, 4}, {0}, {3}}, []int{0, 4, 1, 2, 3, 5}, []int{-1, 0, 1, 0, 0, 3}},
	} {
		try(t, s)
	}
}

// P11.1, P11.2, P11.3 at the edges that the chapter names.
func TestEdges(t *testing.T) {
	for _, s := range []shape{
		{"no block", 0, [][]int{{0}}, "", nil, nil, nil},
		{"below none", -1, [][]int{{0}, {1}}, "", nil, nil, nil},
		{"far below none", -1 << 63, [][]int{{0}, {1}}, "", nil, nil, nil},
		{"one block", 1, [][]int{{}}, "y", [][]int{{}}, []int{0}, []int{-1}},
		{"one block that goes to itself", 1, [][]int{{0, 0}}, "y", [][]int{{0}}, []int{0}, []int{-1}},
		{"the same one twice", 3, [][]int{{1, 1, 2, 1}, {2, 2}, {}},
			"yyy", [][]int{{}, {0}, {0, 1}}, []int{0, 1, 2}, []int{-1, 0, 0}},
		{"the same one twice, another between", 3, [][]int{{2, 1, 2}, {0, 2, 0}, {}},
			"yyy", [][]int{{1}, {0}, {0, 1}}, []int{0, 1, 2}, []int{-1, 0, 0}},
		{"no blocks beside those that are", 2, [][]int{{-1, 2, 1, 3, -1 << 63, 1<<63 - 1}, {2, -1}},
			"yy", [][]int{{}, {0}}, []int{0, 1}, []int{-1, 0}},
		{"no blocks alone", 2, [][]int{{-1, 2}, {0}}, "yn", [][]int{{1}, {}}, []int{0}, []int{-1, -1}},
		{"first named is walked from first", 3, [][]int{{1, 2}, {}, {}},
			"yyy", [][]int{{}, {0}, {0}}, []int{0, 2, 1}, []int{-1, 0, 0}},
		{"named the other way round", 3, [][]int{{2, 1}, {}, {}},
			"yyy", [][]int{{}, {0}, {0}}, []int{0, 1, 2}, []int{-1, 0, 0}},
		{"entered from the first one that comes to it", 4, [][]int{{1, 2}, {2}, {3}, {1}},
			"yyyy", [][]int{{}, {0, 3}, {0, 1}, {2}}, []int{0, 1, 2, 3}, []int{-1, 0, 0, 2}},
		{"ways back to the block 0", 4, [][]int{{1}, {2, 0}, {0, 3}, {0}},
			"yyyy", [][]int{{1, 2, 3}, {0}, {1}, {2}}, []int{0, 1, 2, 3}, []int{-1, 0, 1, 2}},
		{"blocks on no way to any other", 4, [][]int{{3, 2, 1}, {}, {}, {}},
			"yyyy", [][]int{{}, {0}, {0}, {0}}, []int{0, 1, 2, 3}, []int{-1, 0, 0, 0}},
		{"nothing but the block 0 can be come to", 3, [][]int{{}, {2}, {0, 1}},
			"ynn", [][]int{{2}, {2}, {1}}, []int{0}, []int{-1, -1, -1}},
	} {
		try(t, s)
	}
}

// P11.1, P11.2, P11.3 at wrong inputs: as if the lists that are not there were empty, and those beyond n not there.
func TestWrong(t *testing.T) {
	for _, s := range []shape{
		{"nil", 3, nil, "ynn", make([][]int, 3), []int{0}, []int{-1, -1, -1}},
		{"empty", 2, [][]int{}, "yn", make([][]int, 2), []int{0}, []int{-1, -1}},
		{"nil of none", 0, nil, "", nil, nil, nil},
		{"nil below none", -7, nil, "", nil, nil, nil},
		{"shorter than n", 4, [][]int{{3, 1}}, "yyny", [][]int{{}, {0}, {}, {0}}, []int{0, 1, 3}, []int{-1, 0, -1, 0}},
		{"longer than n", 2, [][]int{{2, 1}, {3}, {0, 1}, {1}}, "yy", [][]int{{}, {0}}, []int{0, 1}, []int{-1, 0}},
		{"nil in it", 3, [][]int{{2}, nil, nil}, "yny", [][]int{{}, {}, {0}}, []int{0, 2}, []int{-1, -1, 0}},
		{"nil first", 2, [][]int{nil, {0, 1}}, "yn", [][]int{{1}, {1}}, []int{0}, []int{-1, -1}},
	} {
		try(t, s)
	}
}

// P11.2: however many blocks there may be, Order tells those alone that can be come to.
func TestOrderOfFewAmongMany(t *testing.T) {
	const top = 1<<63 - 1
	for _, c := range []struct {
		n    int
		to   [][]int
		want []int
	}{
		{top, nil, []int{0}},
		{top, [][]int{{top - 1, 5, top, -1}, {9}, {7}, {}, {}, {2, 0}}, []int{0, 5, 2, 7, top - 1}},
		{1 << 40, [][]int{{1<<40 - 1, 1 << 40}}, []int{0, 1<<40 - 1}},
	} {
		if got := Order(c.n, c.to); !slices.Equal(got, c.want) {
			t.Errorf("Order(%d, %v) = %v, want %v", c.n, c.to, got, c.want)
		}
	}
}

// No answer is promised where the list would have too many, but none of the calls panics.
func TestTooMany(t *testing.T) {
	for _, n := range []int{1 << 40, 1<<63 - 1} {
		Reach(n, [][]int{{1}})
		From(n, [][]int{{1}})
		Doms(n, [][]int{{1}})
	}
}
