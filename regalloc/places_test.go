package regalloc_test

import (
	"slices"
	"testing"

	"ferrule/api"
	"ferrule/low"
	"ferrule/regalloc"
)

// Functions on the places where their registers lie mean the same, also where calls spoil what they may.

const fuel = 3000

// onPlaces is a function whose registers are the machine's, and behind these the slots; behind each call nothing is left in those of Lost but what it answered.
func onPlaces(t *testing.T, f api.LowFunc) api.LowFunc {
	t.Helper()
	at, slots, e := regalloc.Assign(f)
	if e != api.OK {
		t.Fatal("error", int(e))
	}
	place := func(reg int) int {
		switch {
		case reg < 0 || reg >= len(at):
			return reg
		case at[reg] < 0:
			return 31 - at[reg]
		}
		return at[reg]
	}
	f = renamed(f, place)
	f.Regs = 32 + slots
	for k := range f.Blocks {
		var list []api.Low
		for _, in := range f.Blocks[k].List {
			list = append(list, in)
			for _, lost := range theLost() {
				if in.Op == api.LoCall && !slices.Contains(in.Dsts, lost) {
					list = append(list, li(lost, 7000+lost))
				}
			}
		}
		f.Blocks[k].List = list
	}
	return f
}

// renamed is a function with other names of its registers.
func renamed(f api.LowFunc, other func(reg int) int) api.LowFunc {
	all := func(list []int) (out []int) {
		for _, reg := range list {
			out = append(out, other(reg))
		}
		return out
	}
	f.Params = all(f.Params)
	f.Blocks = slices.Clone(f.Blocks)
	for k := range f.Blocks {
		b := &f.Blocks[k]
		b.List = slices.Clone(b.List)
		for at := range b.List {
			in := &b.List[at]
			in.D, in.A, in.B, in.Args, in.Dsts = other(in.D), other(in.A), other(in.B), all(in.Args), all(in.Dsts)
		}
		b.Term.A, b.Term.B, b.Term.Args = other(b.Term.A), other(b.Term.B), all(b.Term.Args)
	}
	return f
}

// sameOnPlaces runs functions as they are and on places, and tells what the run came to: it must be the same, if it ended.
func sameOnPlaces(t *testing.T, what string, l []api.LowFunc, input []int) api.Outcome {
	t.Helper()
	var other []api.LowFunc
	for _, f := range l {
		other = append(other, onPlaces(t, f))
	}
	want, _ := low.Run(l, input, fuel)
	got, _ := low.Run(other, input, 5*fuel)
	if want.Kind == api.OutFuel {
		got.Kind, got.Code, got.Print = want.Kind, want.Code, got.Print[:min(len(got.Print), len(want.Print))]
	}
	if got.Kind != want.Kind || got.Code != want.Code || !slices.Equal(got.Print, want.Print) {
		t.Fatalf("%s: %+v, not %+v", what, got, want)
	}
	return want
}

func TestOnPlaces(t *testing.T) {
	ended, printed := map[int]int{}, 0
	for seed := range int64(4000) {
		o := sameOnPlaces(t, "by chance", made(seed), []int{3, 1, 2})
		ended[o.Kind]++
		printed += len(o.Print)
	}
	if ended[api.OutExit] < 500 || ended[api.OutFuel] < 100 || printed < 20_000 {
		t.Error(ended, printed)
	}
}

// TestAnswersOnPlaces runs functions of which calls answer what nobody needs beside what is needed.
func TestAnswersOnPlaces(t *testing.T) {
	g := api.LowFunc{Name: "g", Regs: 6, Answers: 6, Blocks: []api.LowBlock{block(answer(0, 1, 2, 3, 4, 5), li(0, 10), li(1, 11), li(2, 12), li(3, 13), li(4, 14), li(5, 15))}}
	for turn := range 6 {
		dsts := regs(0, 3, 1, 4, 2, 5)
		dsts = slices.Concat(dsts[turn:], dsts[:turn])
		list := []api.Low{li(0, 1), li(1, 2), li(2, 3), show(0), show(1), show(2), calls(dsts, "g"), show(3), show(4), show(5)}
		main := api.LowFunc{Name: "main", Regs: 6, Blocks: []api.LowBlock{block(answer(), list...)}}
		o := sameOnPlaces(t, "answers", []api.LowFunc{main, g}, nil)
		if len(o.Print) != 6 {
			t.Error(o)
		}
	}
}
