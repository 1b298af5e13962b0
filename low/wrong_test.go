package low_test

import (
	"math"
	"math/rand"
	"reflect"
	"slices"
	"strconv"
	"testing"

	"ferrule/api"
	"ferrule/low"
)

// wantStuck: nothing was run.
func wantStuck(t *testing.T, what string, l ...api.LowFunc) {
	t.Helper()
	for _, fuel := range []int{math.MinInt, -1, 0, 1, plenty, math.MaxInt} {
		if got, n := low.Run(l, []int{1}, fuel); !alike(got, outcome(api.OutStuck, 0)) || n != 0 {
			t.Errorf("%s, fuel %d: %+v, %d", what, fuel, got, n)
		}
	}
}

func TestStuck(t *testing.T) {
	wantStuck(t, "nil")
	wantStuck(t, "an empty list", []api.LowFunc{}...)
	wantStuck(t, "no main", sum(), fib())
	wantStuck(t, "Main", fn("Main", 0, nil, 0, 0, block(answer())))
	wantStuck(t, "a function without a name", fn("", 0, nil, 0, 0, block(answer())))
	wantStuck(t, "a main with a param", fn("main", 1, []int{0}, 0, 0, block(answer())))
	wantStuck(t, "a main with an answer", fn("main", 1, nil, 1, 0, block(answer(0))))
	wantStuck(t, "a main with an answer that panics", fn("main", 1, nil, 1, 0, block(fail())))
	wantStuck(t, "a main with a param that calls itself", fn("main", 1, []int{0}, 0, 0, block(answer(), calls(nil, "main", 0))))
	wantStuck(t, "a main that is not formed", fn("main", 0, nil, 0, 0))
	wantStuck(t, "two mains", starts(0, 0), starts(0, 0))
	wantStuck(t, "another one that is not formed, and not called", starts(0, 0), fn("f", -1, nil, 0, 0, block(answer())))
	wantStuck(t, "a block that is not formed, and not come to", fn("main", 0, nil, 0, 0, block(answer()), block(jump(2))))
	wantStuck(t, "an instruction that is not formed, behind a trap", starts(0, 0, sw(zero, 0, zero), li(0, 1)))
	comes(t, "a main whose Params are an empty list", exit(), fn("main", 0, []int{}, 0, 0, block(answer())))
	comes(t, "a main without a register that calls others", exit(), starts(0, 0, calls(nil, "f")), fn("f", 1, nil, 0, 0, block(answer(), li(0, 1))))
}

// plainCheck tells whether nothing is against functions, clause by clause as the document has them.
func plainCheck(l []api.LowFunc) bool {
	fine := true
	must := func(holds bool) { fine = fine && holds }
	in := func(n, from, to int) bool { return n >= from && n <= to }
	for k, f := range l {
		for other := range k {
			must(l[other].Name != f.Name)
		}
		must(len(f.Blocks) > 0 && in(f.Regs, 0, 65536) && in(f.Frame, 0, 65536) && in(f.Answers, 0, 8) && len(f.Params) <= 8)
		register := func(from int, list ...int) {
			for _, reg := range list {
				must(in(reg, from, f.Regs-1) || from < 0 && in(reg, from, -1))
			}
		}
		register(0, f.Params...)
		for _, b := range f.Blocks {
			for _, i := range b.List {
				must(in(i.Op, 1, 11))
				switch i.Op {
				case api.LoLi, api.LoMv, api.LoBin, api.LoImm, api.LoLw, api.LoRead, api.LoAlloc:
					register(0, i.D)
				}
				switch i.Op {
				case api.LoMv, api.LoBin, api.LoPrint, api.LoFree:
					register(-1, i.A)
				case api.LoImm, api.LoLw, api.LoSw:
					register(-2, i.A)
				}
				switch i.Op {
				case api.LoBin:
					register(-1, i.B)
					must(slices.Contains(operations(), i.Text))
				case api.LoImm:
					must(slices.Contains(immediates(), i.Text))
					if i.Text == "sll" || i.Text == "srl" || i.Text == "sra" {
						must(in(i.N, 0, 31))
					} else {
						must(in(i.N, -2048, 2047))
					}
				case api.LoSw:
					register(-1, i.B)
					must(in(i.N, -2048, 2047))
				case api.LoLw:
					must(in(i.N, -2048, 2047))
				case api.LoAlloc:
					must(in(i.N, 0, 128))
				case api.LoCall:
					found := false
					for _, g := range l {
						if g.Name == i.Text {
							found = true
							must(len(i.Args) == len(g.Params) && len(i.Dsts) == g.Answers)
						}
					}
					must(found)
					register(-1, i.Args...)
					register(0, i.Dsts...)
				}
			}
			must(in(b.Term.Kind, 1, 4))
			switch b.Term.Kind {
			case api.TeGoto:
				must(in(b.Term.To, 0, len(f.Blocks)-1))
			case api.TeIf:
				register(-1, b.Term.A, b.Term.B)
				must(in(b.Term.To, 0, len(f.Blocks)-1) && in(b.Term.Else, 0, len(f.Blocks)-1) && slices.Contains(texts(), b.Term.Text))
			case api.TeReturn:
				register(-1, b.Term.Args...)
				must(len(b.Term.Args) == f.Answers)
			}
		}
	}
	return fine
}

// fields tells what a change could be made to: each number, text, bool and list.
func fields(x reflect.Value, out []reflect.Value) []reflect.Value {
	switch x.Kind() {
	case reflect.Struct:
		for k := range x.NumField() {
			out = fields(x.Field(k), out)
		}
	case reflect.Slice:
		out = append(out, x)
		for k := range x.Len() {
			out = fields(x.Index(k), out)
		}
	default:
		out = append(out, x)
	}
	return out
}

// changed changes something by chance.
func changed(chance *rand.Rand, x reflect.Value) {
	switch x.Kind() {
	case reflect.Int:
		list := []int64{-3, -2, -1, 0, 1, 2, 3, 4, 5, 8, 9, 10, 11, 12, 31, 32, 128, 129, 2047, 2048, -2048, -2049, 65536, 65537, math.MaxInt, math.MinInt, x.Int() + 1, x.Int() - 1}
		x.SetInt(list[chance.Intn(len(list))])
	case reflect.String:
		x.SetString([]string{"", "main", "f", "g", "add", "sub", "sra", "eq", "geu", "h"}[chance.Intn(10)])
	case reflect.Bool:
		x.SetBool(!x.Bool())
	case reflect.Slice:
		if x.Len() == 0 || chance.Intn(2) == 0 {
			x.Set(reflect.Append(x, reflect.Zero(x.Type().Elem())))
		} else {
			x.Set(x.Slice(0, chance.Intn(x.Len())))
		}
	}
}

// TestWrongByChance changes functions that were made by chance: Check tells what the document's clauses tell, and Run has an answer, which is the plain machine's.
func TestWrongByChance(t *testing.T) {
	const tries = 6000
	taken := 0
	for seed := range int64(tries) {
		chance := rand.New(rand.NewSource(seed))
		l := made(seed % 200)
		all := fields(reflect.ValueOf(&l).Elem(), nil)
		for range 1 + chance.Intn(3) {
			changed(chance, all[chance.Intn(len(all))])
		}
		fine := plainCheck(l)
		if got := low.Check(l); (got == api.OK) != fine || got != api.OK && got != api.ErrForm {
			t.Fatalf("%d: Check tells %v, and it must be taken: %v", seed, got, fine)
		}
		if !fine {
			wantStuck(t, strconv.Itoa(int(seed)), l...)
			continue
		}
		taken++
		got, steps := low.Run(l, nil, 300)
		main := slices.IndexFunc(l, func(f api.LowFunc) bool { return f.Name == "main" })
		if main < 0 || len(l[main].Params) > 0 || l[main].Answers > 0 {
			wantStuck(t, strconv.Itoa(int(seed)), l...)
			continue
		}
		if want, n := plainRun(l, nil, 300, map[string]int{}); !want.unclear && (!alike(got, want.out) || n != steps) {
			t.Fatalf("%d: %+v, %d, not %+v, %d", seed, got, steps, want.out, n)
		}
	}
	if taken < tries/20 || taken > tries-tries/20 {
		t.Errorf("%d of %d were taken", taken, tries)
	}
}

// TestUnusedByChance: what an operation or an end does not use tells nothing in a run.
func TestUnusedByChance(t *testing.T) {
	for seed := range int64(1000) {
		chance := rand.New(rand.NewSource(seed))
		l := made(seed)
		want, steps := low.Run(l, []int{5, 6}, 800)
		for _, f := range l {
			for k := range f.Blocks {
				b := &f.Blocks[k]
				wild := func() int {
					return []int{-3, -2, -1, 0, 1, 3, 1 << 17, math.MaxInt, math.MinInt}[chance.Intn(9)]
				}
				list := func() []int { return []int{wild(), wild()}[:chance.Intn(3)] }
				text := []string{"", "f", "add", "eq", "?"}[chance.Intn(5)]
				for at, in := range b.List {
					b.List[at] = spoilt(in, api.Low{D: wild(), A: wild(), B: wild(), N: wild(), Text: text, Args: list(), Dsts: list()})
				}
				b.Term = spoiltEnd(b.Term, api.LowTerm{A: wild(), B: wild(), To: wild(), Else: wild(), Text: text, Args: list()})
			}
		}
		if got, n := low.Run(l, []int{5, 6}, 800); !alike(got, want) || n != steps {
			t.Fatalf("%d: %+v, %d, not %+v, %d", seed, got, n, want, steps)
		}
	}
}

// roomy is a copy whose lists have spare room, in which wrong things stand.
func roomy(x reflect.Value) reflect.Value {
	out := reflect.New(x.Type()).Elem()
	out.Set(x)
	switch x.Kind() {
	case reflect.Struct:
		for k := range x.NumField() {
			out.Field(k).Set(roomy(x.Field(k)))
		}
	case reflect.Slice:
		list := reflect.MakeSlice(x.Type(), x.Len()+2, x.Len()+2)
		for k := range x.Len() {
			list.Index(k).Set(roomy(x.Index(k)))
		}
		for k := x.Len(); k < x.Len()+2; k++ {
			for _, f := range fields(list.Index(k), nil) {
				if f.Kind() == reflect.Int {
					f.SetInt(-77)
				}
			}
		}
		out.Set(list.Slice(0, x.Len()))
	}
	return out
}

// wholeOf is a copy in which lists have their spare room too.
func wholeOf(x reflect.Value) reflect.Value {
	out := reflect.New(x.Type()).Elem()
	out.Set(x)
	switch x.Kind() {
	case reflect.Struct:
		for k := range x.NumField() {
			out.Field(k).Set(wholeOf(x.Field(k)))
		}
	case reflect.Slice:
		list := reflect.MakeSlice(x.Type(), x.Cap(), x.Cap())
		for k := range x.Cap() {
			list.Index(k).Set(wholeOf(x.Slice(0, x.Cap()).Index(k)))
		}
		out.Set(list)
	}
	return out
}

// given is all that a call is handed.
type given struct {
	L     []api.LowFunc
	Input []int
}

// TestNothingChanges: what is handed in stays as it was, its spare room too, and that is not read; what is handed out is new; a run tells nothing of one ahead of it.
func TestNothingChanges(t *testing.T) {
	for seed := range int64(300) {
		plain := given{made(seed), []int{4, 5}}
		want, steps := low.Run(plain.L, plain.Input, 500)
		g := roomy(reflect.ValueOf(plain)).Interface().(given)
		before := wholeOf(reflect.ValueOf(g)).Interface()
		if e := low.Check(g.L); e != api.OK {
			t.Fatal(seed, e)
		}
		got, n := low.Run(g.L, g.Input, 500)
		if !alike(got, want) || n != steps {
			t.Fatalf("%d: %+v, %d: spare room tells", seed, got, n)
		}
		first := append([]int{}, got.Print...)
		again, _ := low.Run(g.L, g.Input, 500)
		for k := range again.Print[:cap(again.Print)] {
			again.Print[:cap(again.Print)][k] = -99
		}
		if !reflect.DeepEqual(before, wholeOf(reflect.ValueOf(g)).Interface()) {
			t.Fatal(seed, "something was changed")
		}
		if !alike(got, outcome(want.Kind, want.Code, first...)) {
			t.Fatal(seed, "what is handed out is shared")
		}
	}
}

// Functions, blocks, instructions and numbers that are printed, very many of each.
func TestMany(t *testing.T) {
	const many = 100000
	l := []api.LowFunc{starts(1, 0, li(0, 5), calls(nil, "f"+strconv.Itoa(many-1), 0), show(0))}
	for k := range many {
		l = append(l, fn("f"+strconv.Itoa(k), 1, []int{0}, 0, 0, block(answer(), show(0))))
	}
	comes(t, "many functions", exit(5, 5), l...)
	if e := low.Check(append(l, fn("f"+strconv.Itoa(many/2), 0, nil, 0, 0, block(answer())))); e != api.ErrForm {
		t.Error(e)
	}
	line := fn("main", 1, nil, 0, 0)
	for k := range many {
		line.Blocks = append(line.Blocks, block(jump(k+1), imm(0, 0, "add", 1)))
	}
	line.Blocks = append(line.Blocks, block(answer(), show(0)))
	comes(t, "many blocks", exit(many), line)
	line.Blocks[many-1].Term.To = many + 1
	if e := low.Check([]api.LowFunc{line}); e != api.ErrForm {
		t.Error(e)
	}
	list := slices.Repeat([]api.Low{imm(0, 0, "add", 1), show(0)}, many)
	if got, n := low.Run([]api.LowFunc{starts(1, 0, list...)}, nil, plenty); got.Kind != api.OutExit || len(got.Print) != many || got.Print[many-1] != many || n != 2*many+1 {
		t.Error("many instructions:", got.Kind, len(got.Print), n)
	}
	numbers := make([]int, many)
	for k := range numbers {
		numbers[k] = many - k
	}
	reads := fn("main", 2, nil, 0, 0, block(branch(0, "ne", zero, 1, 2), read(0)), block(jump(0), bin(1, 1, "xor", 0)), block(answer(), show(1)))
	want := 0
	for _, n := range numbers {
		want ^= n
	}
	comesWith(t, "much input", exit(want), numbers, reads)
}
