package lower_test

import (
	"math"
	"math/rand"
	"reflect"
	"testing"

	"ferrule/api"
	"ferrule/fold"
	"ferrule/layout"
	"ferrule/lower"
	"ferrule/mir"
)

// P18.1 to P18.3 of functions that are made by chance, as they are and folded.
func TestFunctionsByChance(t *testing.T) {
	seen := map[[2]int]int{}
	printed, copies := 0, 0
	for seed := range int64(4000) {
		l := mixed(seed)
		again, e := fold.Fold(l)
		if e != api.OK {
			t.Fatal(seed, e)
		}
		chance := rand.New(rand.NewSource(seed))
		input := []int{chance.Intn(5), chance.Intn(5000) - 100, chance.Int()}[:chance.Intn(4)]
		for _, l := range [][]api.Mir{l, again} {
			got := runs(t, "by chance", nil, l, input, 300)
			seen[[2]int{got.Kind, got.Code}]++
			printed += len(got.Print)
		}
		wantChosen(t, lowered(t, again...))
		for _, f := range again {
			for _, b := range f.Blocks {
				for _, in := range b.List {
					if in.Op == api.OpCopy && in.N > 8 {
						copies++
					}
				}
			}
		}
	}
	wantSeen(t, seen, 100, [2]int{api.OutFuel, 0}, [2]int{api.OutExit, 0}, [2]int{api.OutExit, 101}, [2]int{api.OutTrap, 0}, [2]int{api.OutDepth, 0})
	if printed < 10_000 || copies < 1000 {
		t.Error(printed, copies)
	}
}

// fields tells what a change could be made to: each number, text, bool and list.
func fields(x reflect.Value, out []reflect.Value) []reflect.Value {
	switch x.Kind() {
	case reflect.Struct:
		for k := range x.NumField() {
			out = fields(x.Field(k), out)
		}
	case reflect.Slice:
		out = append(out, x)
		for k := range x.Len() {
			out = fields(x.Index(k), out)
		}
	default:
		out = append(out, x)
	}
	return out
}

// change changes something by chance.
func change(chance *rand.Rand, x reflect.Value) {
	switch x.Kind() {
	case reflect.Int:
		list := []int64{-2, -1, 0, 1, 2, 3, 4, 5, 7, 8, 9, 10, 11, 12, 13, 14, 15, 16, 128, 129, 460, 512, 513, 65536, 65537, math.MaxInt, math.MinInt, x.Int() + 1, x.Int() - 1}
		x.SetInt(list[chance.Intn(len(list))])
	case reflect.String:
		x.SetString([]string{"", "main", "f", "g", "add", "sub", "sra", "xor", "eq", "h"}[chance.Intn(10)])
	case reflect.Bool:
		x.SetBool(!x.Bool())
	case reflect.Slice:
		if x.Len() == 0 || chance.Intn(2) == 0 {
			x.Set(reflect.Append(x, reflect.Zero(x.Type().Elem())))
		} else {
			x.Set(x.Slice(0, chance.Intn(x.Len())))
		}
	}
}

// wanted tells the error that P18.1 asks for.
func wanted(l []api.Mir) api.Errno {
	if mir.Check(l) != api.OK {
		return api.ErrForm
	}
	great := false
	for _, f := range l {
		for _, b := range f.Blocks {
			for _, in := range b.List {
				switch in.Op {
				case api.OpDrop, api.OpGive, api.OpTake, api.OpClear:
					return api.ErrForm
				}
			}
		}
		_, words := layout.Layout(f)
		great = great || words > 500
	}
	if great {
		return api.ErrFrame
	}
	return api.OK
}

// Functions that are changed by chance: some are refused, and of the others P18.1 holds.
func TestChangedByChance(t *testing.T) {
	told := map[api.Errno]int{}
	for seed := range int64(9000) {
		chance := rand.New(rand.NewSource(seed))
		l := mixed(seed % 300)
		all := fields(reflect.ValueOf(&l).Elem(), nil)
		for range 1 + chance.Intn(3) {
			change(chance, all[chance.Intn(len(all))])
		}
		if k := chance.Intn(25); k == 0 && len(l) > 0 && len(l[0].Locals) > 17 {
			l[0].Locals[sixWords] = 430 + chance.Intn(60)
		}
		out, e := lower.Lower(l)
		if want := wanted(l); e != want {
			t.Fatalf("%d: %d, not %d", seed, int(e), int(want))
		}
		told[e]++
		switch {
		case e != api.OK && len(out) > 0:
			t.Fatalf("%d: %d, and %d functions", seed, int(e), len(out))
		case e == api.OK && fault(l, out) != "":
			t.Fatalf("%d: %s", seed, fault(l, out))
		}
	}
	for _, e := range []api.Errno{api.OK, api.ErrForm, api.ErrFrame} {
		if told[e] < 100 {
			t.Error(told)
		}
	}
}
