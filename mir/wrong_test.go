package mir

import (
	"math"
	"math/rand"
	"reflect"
	"testing"

	"ferrule/api"
)

// plainCheck tells whether nothing is against functions, clause by clause as the document has them.
func plainCheck(l []api.Mir) bool {
	fine := true
	must := func(holds bool) { fine = fine && holds }
	in := func(n, from, to int) bool { return n >= from && n <= to }
	words := func(f api.Mir) int {
		sum := 0
		for k := 0; k < f.Params && k < len(f.Locals); k++ {
			sum += min(f.Locals[k], 1000)
		}
		return sum
	}
	for k, f := range l {
		for other := range k {
			must(l[other].Name != f.Name)
		}
		must(len(f.Blocks) > 0 && in(f.Params, 0, len(f.Locals)) && in(f.Answers, 0, 8) && words(f) <= 8)
		for _, w := range f.Locals {
			must(in(w, 0, 512))
		}
		scalar := func(n int) { must(in(n, 0, len(f.Locals)-1) && f.Locals[n] == 1) }
		operand := func(list ...api.Operand) {
			for _, o := range list {
				if !o.Const {
					scalar(o.N)
				}
			}
		}
		place := func(p api.Place) {
			must(in(p.Local, 0, len(f.Locals)-1))
			for _, s := range p.Steps {
				must(in(s.Kind, 1, 3))
				if s.Kind == api.StAdd {
					must(in(s.N, 0, 65536))
				}
				if s.Kind == api.StIndex {
					scalar(s.N)
					must(in(s.Size, 0, 65536))
				}
			}
		}
		for _, b := range f.Blocks {
			for _, i := range b.List {
				must(in(i.Op, 1, 15))
				switch i.Op {
				case api.OpSet, api.OpBin, api.OpLoad, api.OpAddr, api.OpAlloc, api.OpRead:
					scalar(i.Dst)
				case api.OpGive, api.OpTake, api.OpClear:
					place(at(i.Dst))
				}
				switch i.Op {
				case api.OpSet, api.OpStore, api.OpFree, api.OpPrint, api.OpBin:
					operand(i.A)
				}
				switch i.Op {
				case api.OpLoad, api.OpStore, api.OpCopy, api.OpAddr, api.OpDrop:
					place(i.P)
				}
				switch i.Op {
				case api.OpBin:
					operand(i.B)
					known := false
					for _, name := range names() {
						known = known || name == i.Text
					}
					must(known)
				case api.OpCopy:
					place(i.Q)
					must(in(i.N, 0, 128))
				case api.OpAlloc:
					must(in(i.N, 0, 128))
				case api.OpCall:
					found := false
					for _, g := range l {
						if g.Name == i.Text {
							found = true
							must(len(i.Args) == words(g) && len(i.Dsts) == g.Answers)
						}
					}
					must(found)
					operand(i.Args...)
					for _, d := range i.Dsts {
						scalar(d)
					}
				}
			}
			must(in(b.Term.Kind, 1, 4))
			switch b.Term.Kind {
			case api.TeGoto:
				must(in(b.Term.To, 0, len(f.Blocks)-1))
			case api.TeIf:
				operand(b.Term.A)
				must(in(b.Term.To, 0, len(f.Blocks)-1) && in(b.Term.Else, 0, len(f.Blocks)-1))
			case api.TeReturn:
				operand(b.Term.Args...)
				must(len(b.Term.Args) == f.Answers)
			}
		}
	}
	return fine
}

// fields tells what a change could be made to: each number, text, bool and list.
func fields(x reflect.Value, out []reflect.Value) []reflect.Value {
	switch x.Kind() {
	case reflect.Struct:
		for k := range x.NumField() {
			out = fields(x.Field(k), out)
		}
	case reflect.Slice:
		out = append(out, x)
		for k := range x.Len() {
			out = fields(x.Index(k), out)
		}
	default:
		out = append(out, x)
	}
	return out
}

// changed changes something by chance.
func changed(chance *rand.Rand, x reflect.Value) {
	switch x.Kind() {
	case reflect.Int:
		list := []int64{-1, 0, 1, 2, 3, 4, 5, 8, 9, 13, 15, 16, 128, 129, 512, 513, 65536, 65537, math.MaxInt, math.MinInt, x.Int() + 1, x.Int() - 1}
		x.SetInt(list[chance.Intn(len(list))])
	case reflect.String:
		x.SetString([]string{"", "main", "f", "g", "add", "eq", "Pair", "drop f"}[chance.Intn(8)])
	case reflect.Bool:
		x.SetBool(!x.Bool())
	case reflect.Slice:
		if x.Len() == 0 || chance.Intn(2) == 0 {
			x.Set(reflect.Append(x, reflect.Zero(x.Type().Elem())))
		} else {
			x.Set(x.Slice(0, chance.Intn(x.Len())))
		}
	}
}

// TestWrongByChance changes functions that were made by chance: Check tells what the document's clauses tell, and Run has an answer.
func TestWrongByChance(t *testing.T) {
	const tries = 4000
	taken := 0
	for seed := range int64(tries) {
		chance := rand.New(rand.NewSource(seed))
		l := made(seed % 200)
		all := fields(reflect.ValueOf(&l).Elem(), nil)
		for range 1 + chance.Intn(3) {
			changed(chance, all[chance.Intn(len(all))])
		}
		fine := plainCheck(l)
		if got := Check(l); (got == api.OK) != fine || got != api.OK && got != api.ErrForm {
			t.Fatalf("%d: Check tells %v, and it must be taken: %v", seed, got, fine)
		}
		out, steps := Run(madeItems(), l, nil, 300)
		if fine {
			taken++
		} else if !alike(out, outcome(api.OutStuck, 0)) || steps != 0 {
			t.Fatalf("%d: %+v, %d", seed, out, steps)
		}
	}
	if taken < tries/20 || taken > tries-tries/20 {
		t.Errorf("%d of %d were taken", taken, tries)
	}
}

// roomy is a copy whose lists have spare room, in which wrong things stand.
func roomy(x reflect.Value) reflect.Value {
	out := reflect.New(x.Type()).Elem()
	out.Set(x)
	switch x.Kind() {
	case reflect.Struct:
		for k := range x.NumField() {
			out.Field(k).Set(roomy(x.Field(k)))
		}
	case reflect.Slice:
		list := reflect.MakeSlice(x.Type(), x.Len()+2, x.Len()+2)
		for k := range x.Len() {
			list.Index(k).Set(roomy(x.Index(k)))
		}
		for k := x.Len(); k < x.Len()+2; k++ {
			for _, f := range fields(list.Index(k), nil) {
				if f.Kind() == reflect.Int {
					f.SetInt(-77)
				}
			}
		}
		out.Set(list.Slice(0, x.Len()))
	}
	return out
}

// whole is a copy in which lists have their spare room too.
func wholeOf(x reflect.Value) reflect.Value {
	out := reflect.New(x.Type()).Elem()
	out.Set(x)
	switch x.Kind() {
	case reflect.Struct:
		for k := range x.NumField() {
			out.Field(k).Set(wholeOf(x.Field(k)))
		}
	case reflect.Slice:
		list := reflect.MakeSlice(x.Type(), x.Cap(), x.Cap())
		for k := range x.Cap() {
			list.Index(k).Set(wholeOf(x.Slice(0, x.Cap()).Index(k)))
		}
		out.Set(list)
	}
	return out
}

// given is all that a call is handed.
type given struct {
	Items []api.Item
	L     []api.Mir
	Input []int
}

// TestNothingChanges: what is handed in stays as it was, its spare room too, and that is not read; what is handed out is new.
func TestNothingChanges(t *testing.T) {
	for seed := range int64(300) {
		plain := given{madeItems(), made(seed), []int{4, 5}}
		want, steps := Run(plain.Items, plain.L, plain.Input, 500)
		g := roomy(reflect.ValueOf(plain)).Interface().(given)
		before := wholeOf(reflect.ValueOf(g)).Interface()
		if e := Check(g.L); e != api.OK {
			t.Fatal(seed, e)
		}
		got, n := Run(g.Items, g.L, g.Input, 500)
		if !alike(got, want) || n != steps {
			t.Fatalf("%d: %+v, %d: spare room tells", seed, got, n)
		}
		first := append([]int{}, got.Print...)
		again, _ := Run(g.Items, g.L, g.Input, 500)
		for k := range again.Print[:cap(again.Print)] {
			again.Print[:cap(again.Print)][k] = -99
		}
		if !reflect.DeepEqual(before, wholeOf(reflect.ValueOf(g)).Interface()) {
			t.Fatal(seed, "something was changed")
		}
		if !alike(got, outcome(want.Kind, want.Code, first...)) {
			t.Fatal(seed, "what is handed out is shared")
		}
	}
}

func TestManyLocals(t *testing.T) {
	locals := make([]int, 100000)
	for k := range locals {
		locals[k] = 1
	}
	last := len(locals) - 1
	round := []api.Instr{addr(1, at(last)), store(at(1, held()), n(7)), show(v(last))}
	comes(t, "many locals, in many calls", outcome(api.OutDepth, 0, 7), nil, starts(nil, calls(nil, "f")),
		fn("f", locals, 0, 0, block(jump(1), append(round, calls(nil, "g"))...), block(answer())),
		fn("g", locals, 0, 0, block(answer(), calls(nil, "g"))))

	const most = 4*api.MaxDepth + 200
	l := []api.Mir{starts(nil, calls(nil, "f", n(1))), quiet(fn("f", locals, 1, 0, block(answer(), show(v(0)), addr(last, at(last-1)), store(at(last, held()), v(0)), bin(0, v(last-1), "add", n(1)), calls(nil, "f", v(0)))))}
	if got, steps := Run(nil, l, nil, plenty); got.Kind != api.OutDepth || len(got.Print) != most-1 || got.Print[most-2] != most-1 || steps != 1+5*(most-1) {
		t.Error("many locals, in many quiet calls:", got, steps)
	}

	for k := range locals {
		locals[k] = 4 * api.MaxWords
	}
	for range 4 {
		locals = append(locals, locals...)
	}
	comes(t, "locals with more words than there are addresses", outcome(api.OutDepth, 0), nil, starts(locals, show(n(1))))
}

func TestManyFunctions(t *testing.T) {
	const most = 100000
	l := []api.Mir{starts(nil, calls(nil, string(rune(most-1))), show(n(1)))}
	for k := range most {
		if k >= 0xd800 && k < 0xe000 {
			continue // they are no runes
		}
		l = append(l, fn(string(rune(k)), []int{1}, 0, 0, block(answer(), show(n(k)))))
	}
	comes(t, "many functions", exit(most-1, 1), nil, l...)
	l = append(l, fn(string(rune(most/2)), nil, 0, 0, block(answer())))
	if e := Check(l); e != api.ErrForm {
		t.Error(e)
	}
}
