package regalloc_test

import (
	"fmt"
	"math"
	"math/rand"
	"reflect"
	"slices"
	"testing"

	"ferrule/api"
	"ferrule/live"
)

// sample is a function that nothing is against, with each operation and each end, and calls of itself and of others.
func sample() api.LowFunc {
	return api.LowFunc{Name: "f", Regs: 4, Params: regs(0, 3), Answers: 2, Frame: 8, Blocks: []api.LowBlock{
		block(jump(3), li(1, math.MaxInt), mv(2, zero), bin(3, 0, "mulhu", zero), imm(0, frame, "add", -2048), imm(0, zero, "sra", 31)),
		block(branch(zero, "ltu", 3, 0, 3), lw(1, frame, 2047), lw(2, 1, -2048), sw(frame, -2048, zero), sw(1, 2047, 3)),
		block(answer(2, zero), show(1), show(zero), read(2), alloc(3, 0), alloc(3, api.MaxWords), free(3), free(zero)),
		block(fail(), calls(nil, "g"), calls(regs(1, 1), "f", 2, zero), calls(regs(0, 1, 2, 3, 0, 1, 2, 3), "h", 0, 1, 2, 3, 0, 1, 2, zero)),
	}}
}

// bare is one without registers.
func bare() api.LowFunc {
	return api.LowFunc{Name: "f", Frame: 2, Answers: 1, Blocks: []api.LowBlock{
		block(branch(zero, "eq", zero, 1, 0), show(zero), sw(frame, 4, zero), free(zero)),
		block(answer(zero), calls(nil, "g", zero, zero)),
	}}
}

// change is something done to a function.
type change struct {
	what string
	do   func(f *api.LowFunc)
}

// changes are such that neither sample nor bare is taken any more.
func changes() []change {
	list := []change{
		{"no block", func(f *api.LowFunc) { f.Blocks = nil }},
		{"an empty list of blocks", func(f *api.LowFunc) { f.Blocks = []api.LowBlock{} }},
		{"all of it", func(f *api.LowFunc) { *f = api.LowFunc{} }},
		{"too many Params", func(f *api.LowFunc) { f.Params = make([]int, 9) }},
		{"a Param that is none", func(f *api.LowFunc) { f.Params = regs(4) }},
		{"a Param below 0", func(f *api.LowFunc) { f.Params = regs(zero) }},
		{"no Answers", func(f *api.LowFunc) { f.Answers = 0 }},
		{"LoBin of another operation", func(f *api.LowFunc) { f.Blocks[0].List[1] = bin(0, zero, "eq", zero) }},
		{"LoImm's N", func(f *api.LowFunc) { f.Blocks[0].List[1] = imm(0, zero, "add", 2048) }},
		{"LoSw's N", func(f *api.LowFunc) { f.Blocks[0].List[1] = sw(frame, 2048, zero) }},
		{"LoAlloc's N", func(f *api.LowFunc) { f.Blocks[0].List[1] = alloc(0, api.MaxWords+1) }},
		{"a call of itself with too many Args", func(f *api.LowFunc) { f.Blocks[1].List[0] = calls(regs(0, 0), "f", zero, zero, zero) }},
		{"a call of itself with too few Dsts", func(f *api.LowFunc) { f.Blocks[1].List[0] = calls(nil, "f") }},
		{"another one's Args", func(f *api.LowFunc) { f.Blocks[1].List[0] = calls(nil, "g", 4) }},
		{"another one's Dsts", func(f *api.LowFunc) { f.Blocks[1].List[0] = calls(regs(zero), "g") }},
		{"a TeIf of another text", func(f *api.LowFunc) { f.Blocks[1].Term = branch(zero, "le", zero, 0, 0) }},
		{"a TeReturn of too many", func(f *api.LowFunc) { f.Blocks[0].Term = answer(zero, zero, zero) }},
	}
	put := func(what string, at func(f *api.LowFunc) *int, numbers ...int) {
		for _, n := range numbers {
			list = append(list, change{fmt.Sprint(what, " ", n), func(f *api.LowFunc) { *at(f) = n }})
		}
	}
	put("Regs", func(f *api.LowFunc) *int { return &f.Regs }, -1, 1<<16+1, math.MaxInt, math.MinInt)
	put("Frame", func(f *api.LowFunc) *int { return &f.Frame }, -1, 1<<16+1, math.MaxInt, math.MinInt)
	put("Answers", func(f *api.LowFunc) *int { return &f.Answers }, -1, 9, math.MaxInt, math.MinInt)
	put("an operation", func(f *api.LowFunc) *int { return &f.Blocks[0].List[2].Op }, 0, 12, -1, math.MaxInt, math.MinInt)
	put("an end", func(f *api.LowFunc) *int { return &f.Blocks[1].Term.Kind }, 0, 5, -1, math.MaxInt, math.MinInt)
	put("an end's To", func(f *api.LowFunc) *int { return &f.Blocks[0].Term.To }, -1, 4, math.MaxInt, math.MinInt)
	return list
}

// P21.2: functions without blocks, and those that live.Ranges tells nothing of, with registers and without; one fault, and two at one time.
func TestRefused(t *testing.T) {
	byWords(t, "the sample", sample())
	byWords(t, "the bare one", bare())
	for _, c := range changes() {
		for which, f := range []api.LowFunc{sample(), bare()} {
			c.do(&f)
			refused(t, fmt.Sprint(which, ": ", c.what), f)
		}
		for _, other := range changes() {
			for which, f := range []api.LowFunc{sample(), bare()} {
				c.do(&f)
				if len(f.Blocks) > 0 {
					other.do(&f)
				}
				if in, _ := live.Live(f); len(in) == 0 { // one fault may stand where the other one was
					refused(t, fmt.Sprint(which, ": ", c.what, ", ", other.what), f)
				}
			}
		}
	}
}

// A function without registers uses none: where one stands, it is refused.
func TestNoneOfNone(t *testing.T) {
	with := func(many int, in api.Low) api.LowFunc {
		f := bare()
		f.Regs, f.Blocks[1].List = many, append(f.Blocks[1].List, in)
		return f
	}
	for _, in := range []api.Low{li(0, 1), mv(0, zero), show(0), read(0), alloc(0, 1), free(0), sw(0, 0, zero), sw(frame, 0, 0), imm(0, zero, "add", 1), calls(nil, "g", 0), calls(regs(0), "g")} {
		refused(t, fmt.Sprint(in), with(0, in))
		byWords(t, fmt.Sprint(in), with(1, in))
	}
	for _, in := range []api.Low{show(1), show(frame), read(zero), mv(1, zero), calls(regs(1), "g"), calls(nil, "g", math.MinInt)} {
		refused(t, fmt.Sprint(in), with(0, in))
		refused(t, fmt.Sprint(in), with(1, in))
	}
}

// fields tells what a change could be made to: each number, text, bool and list.
func fields(x reflect.Value, out []reflect.Value) []reflect.Value {
	switch x.Kind() {
	case reflect.Struct:
		for k := range x.NumField() {
			out = fields(x.Field(k), out)
		}
	case reflect.Slice:
		out = append(out, x)
		for k := range x.Len() {
			out = fields(x.Index(k), out)
		}
	default:
		out = append(out, x)
	}
	return out
}

// changed changes something by chance.
func changed(chance *rand.Rand, x reflect.Value) {
	switch x.Kind() {
	case reflect.Int:
		list := []int64{-3, -2, -1, 0, 1, 2, 3, 4, 5, 6, 7, 8, 9, 10, 11, 12, 31, 32, 128, 129, 2047, 2048, 65536, 65537, math.MaxInt, math.MinInt, x.Int() + 1, x.Int() - 1}
		x.SetInt(list[chance.Intn(len(list))])
	case reflect.String:
		x.SetString([]string{"", "main", "f", "g", "add", "sub", "sra", "xor", "eq", "ltu"}[chance.Intn(10)])
	case reflect.Bool:
		x.SetBool(!x.Bool())
	case reflect.Slice:
		if x.Len() == 0 || chance.Intn(2) == 0 {
			x.Set(reflect.Append(x, reflect.Zero(x.Type().Elem())))
		} else {
			x.Set(x.Slice(0, chance.Intn(x.Len())))
		}
	}
}

// TestChangedByChance: functions that are changed by chance are refused just if live tells nothing of them.
func TestChangedByChance(t *testing.T) {
	count := map[string]int{}
	for seed := range int64(15_000) {
		chance := rand.New(rand.NewSource(seed))
		l := append(made(seed%500), bare(), bare())
		f := l[chance.Intn(len(l))]
		all := fields(reflect.ValueOf(&f).Elem(), nil)
		for range 1 + chance.Intn(3) {
			changed(chance, all[chance.Intn(len(all))])
		}
		in, _ := live.Live(f)
		what := fmt.Sprintf("taken: %v, registers: %v", len(in) > 0, f.Regs != 0)
		if len(in) > 0 {
			byWords(t, fmt.Sprint("seed ", seed), f)
		} else {
			refused(t, fmt.Sprint("seed ", seed), f)
		}
		count[what]++
	}
	if len(count) != 4 {
		t.Error(count)
	}
	for _, n := range count {
		if n < 500 {
			t.Error(count)
		}
	}
}

// TestOddFields: what an instruction does not use may be anything.
func TestOddFields(t *testing.T) {
	odd := func(in api.Low) api.Low {
		switch in.Op {
		case api.LoLi:
			in.A, in.B, in.Text, in.Args, in.Dsts = -9, math.MaxInt, "odd", regs(-5, 1<<40), regs(math.MaxInt, 0)
		case api.LoPrint:
			in.D, in.B, in.Text, in.Args, in.Dsts = math.MinInt, 1<<40, "g", regs(0, 1), regs(-7, 1<<40)
		case api.LoCall:
			in.D, in.A, in.B, in.N = 1<<40, -9, math.MaxInt, math.MinInt
		}
		return in
	}
	for stay := range 13 {
		f, other := window(13, 70, stay, stay%2 == 0), window(13, 70, stay, stay%2 == 0)
		for k, in := range other.Blocks[0].List {
			other.Blocks[0].List[k] = odd(in)
		}
		other.Blocks[0].Term.A, other.Blocks[0].Term.To, other.Frame, other.Quiet = 1<<40, -1, 1<<16, true
		if a, b := byWords(t, "plain", f), byWords(t, "odd", other); !slices.Equal(a.at, b.at) || a.slots != b.slots {
			t.Error(stay, a, b)
		}
	}
}

// TestEmptyLists: a list without an element may be nil or empty.
func TestEmptyLists(t *testing.T) {
	plain := api.LowFunc{Regs: 1, Blocks: []api.LowBlock{block(branch(zero, "eq", zero, 0, 1)), block(answer(), calls(nil, ""), calls(nil, "g"), show(0))}}
	empty := api.LowFunc{Regs: 1, Params: regs(), Blocks: []api.LowBlock{plain.Blocks[0], {List: []api.Low{calls(regs(), "", regs()...), calls(regs(), "g", regs()...), show(0)}, Term: answer(regs()...)}}}
	empty.Blocks[0].List, empty.Blocks[0].Term.Args = []api.Low{}, regs()
	if a, b := byWords(t, "nil", plain), byWords(t, "empty", empty); !slices.Equal(a.at, b.at) || a.slots != b.slots {
		t.Error(a, b)
	}
}
