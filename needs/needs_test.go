package needs

import (
	"slices"
	"testing"

	"ferrule/api"
)

// What functions need is told by live, whose tests hold it against plain words; here is what other packages ask for by themselves.

func line() *api.LowFunc {
	return &api.LowFunc{Name: "f", Regs: 4, Params: []int{2}, Blocks: []api.LowBlock{
		{List: []api.Low{{Op: api.LoLi, D: 0}, {Op: api.LoSw, A: api.RegFrame, B: 0}}, Term: api.LowTerm{Kind: api.TeIf, A: 2, B: api.RegZero, Text: "eq", To: 1, Else: 1}},
		{List: []api.Low{{Op: api.LoCall, Text: "g", Args: []int{0, api.RegZero}, Dsts: []int{1}}}, Term: api.LowTerm{Kind: api.TeReturn, Args: []int{1}}},
		{Term: api.LowTerm{Kind: api.TePanic}},
	}}
}

func TestEach(t *testing.T) {
	f := line()
	var got []int
	note := func(n *int) { got = append(got, *n) }
	EachRead(&f.Blocks[0].List[1], note)
	EachSet(&f.Blocks[0].List[1], note)
	EachRead(&f.Blocks[1].List[0], note)
	EachSet(&f.Blocks[1].List[0], note)
	EachEndRead(&f.Blocks[0].Term, note)
	EachEndRead(&f.Blocks[1].Term, note)
	EachEndRead(&f.Blocks[2].Term, note)
	EachOf([]int{3, api.RegFrame, 0}, note)
	EachGoal(&f.Blocks[0].Term, note)
	EachGoal(&f.Blocks[1].Term, note)
	if want := []int{0, 0, 1, 2, 1, 3, 0, 1, 1}; !slices.Equal(got, want) {
		t.Errorf("%v, not %v", got, want)
	}
}

// Registers can be given other numbers, where they stand.
func TestEachChanges(t *testing.T) {
	f := line()
	EachSet(&f.Blocks[1].List[0], func(reg *int) { *reg = 3 })
	EachRead(&f.Blocks[1].List[0], func(reg *int) { *reg = 2 })
	if in := f.Blocks[1].List[0]; !slices.Equal(in.Args, []int{2, api.RegZero}) || !slices.Equal(in.Dsts, []int{3}) {
		t.Error(in)
	}
}

// A walk tells each block once, also where an end goes to one twice; the next walk begins anew.
func TestWalk(t *testing.T) {
	n := Of(line())
	for range 2 {
		for reg, want := range [][]int{{1, -1}, nil, {0}, nil} {
			var got []int
			n.Walk(reg, func(block int) { got = append(got, block) }, func(block int) { got = append(got, -1-block) })
			if !slices.Equal(got, want) {
				t.Errorf("of the register %d: %v, not %v", reg, got, want)
			}
		}
	}
	if len(n.Asked) != 2 {
		t.Error(n.Asked)
	}
}

func TestEachPosition(t *testing.T) {
	least, most := map[int]int{}, map[int]int{}
	EachPosition(line(), func(reg, at int) {
		if old, is := least[reg]; !is || at < old {
			least[reg] = at
		}
		most[reg] = max(most[reg], at)
	})
	for reg, want := range map[int][2]int{0: {1, 5}, 1: {5, 6}, 2: {0, 3}} {
		if got := [2]int{least[reg], most[reg]}; got != want {
			t.Errorf("of the register %d: %v, not %v", reg, got, want)
		}
	}
	if len(least) != 3 {
		t.Error(least)
	}
}
