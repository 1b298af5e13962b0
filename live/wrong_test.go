package live_test

import (
	"fmt"
	"math"
	"math/rand"
	"reflect"
	"slices"
	"testing"

	"ferrule/api"
	"ferrule/live"
	"ferrule/low"
)

// sample is a function that nothing is against, with each operation and each end, and calls of itself and of others.
func sample() api.LowFunc {
	return api.LowFunc{Name: "f", Regs: 4, Params: regs(0, 3), Answers: 2, Frame: 8, Blocks: []api.LowBlock{
		block(jump(3), li(1, math.MaxInt), mv(2, zero), bin(3, 0, "mulhu", zero), imm(0, frame, "add", -2048), imm(0, zero, "sra", 31)),
		block(branch(zero, "ltu", 3, 0, 3), lw(1, frame, 2047), lw(2, 1, -2048), sw(frame, -2048, zero), sw(1, 2047, 3)),
		block(answer(2, zero), show(1), show(zero), read(2), alloc(3, 0), alloc(3, api.MaxWords), free(3), free(zero)),
		block(fail(), calls(nil, "g"), calls(regs(1, 1), "f", 2, zero), calls(regs(0, 1, 2, 3, 0, 1, 2, 3), "h", 0, 1, 2, 3, 0, 1, 2, zero)),
	}}
}

// change is something done to sample.
type change struct {
	what string
	do   func(f *api.LowFunc)
}

// TestRefused asks each reason that low.Check has against a function, but for functions that are not there.
func TestRefused(t *testing.T) {
	wantSomething(t, "the sample", sample())
	list := []change{
		{"no block", func(f *api.LowFunc) { f.Blocks = nil }},
		{"an empty list of blocks", func(f *api.LowFunc) { f.Blocks = []api.LowBlock{} }},
		{"all of it", func(f *api.LowFunc) { *f = api.LowFunc{} }},
		{"too many Params", func(f *api.LowFunc) { f.Params, f.Blocks[3].List[1].Args = make([]int, 9), make([]int, 9) }},
		{"too many Params of one that nobody calls", func(f *api.LowFunc) { f.Params, f.Blocks[3].List[1].Text = make([]int, 9), "g" }},
		{"too many Answers", func(f *api.LowFunc) {
			f.Answers, f.Blocks[3].List[1].Dsts, f.Blocks[2].Term.Args = 9, make([]int, 9), make([]int, 9)
		}},
		{"LoBin of another operation", func(f *api.LowFunc) { f.Blocks[0].List[2].Text = "eq" }},
		{"LoBin of none", func(f *api.LowFunc) { f.Blocks[0].List[2].Text = "" }},
		{"LoImm of an operation that has no number", func(f *api.LowFunc) { f.Blocks[0].List[3].Text = "sub" }},
		{"LoImm of a comparison", func(f *api.LowFunc) { f.Blocks[0].List[3].Text = "lt" }},
		{"a call of itself with too few Args", func(f *api.LowFunc) { f.Blocks[3].List[1].Args = regs(1) }},
		{"a call of itself with too many Args", func(f *api.LowFunc) { f.Blocks[3].List[1].Args = regs(1, 1, 1) }},
		{"a call of itself with too few Dsts", func(f *api.LowFunc) { f.Blocks[3].List[1].Dsts = regs(1) }},
		{"a call of itself with no Dsts", func(f *api.LowFunc) { f.Blocks[3].List[1].Dsts = nil }},
		{"a call of itself by another name", func(f *api.LowFunc) { f.Name = "g" }},
		{"a TeIf of another text", func(f *api.LowFunc) { f.Blocks[1].Term.Text = "le" }},
		{"a TeReturn of too few", func(f *api.LowFunc) { f.Blocks[2].Term.Args = regs(1) }},
		{"a TeReturn of too many", func(f *api.LowFunc) { f.Blocks[2].Term.Args = regs(1, 2, 3) }},
	}
	put := func(what string, at func(f *api.LowFunc) *int, numbers ...int) {
		for _, n := range numbers {
			list = append(list, change{fmt.Sprint(what, " ", n), func(f *api.LowFunc) { *at(f) = n }})
		}
	}
	put("Regs", func(f *api.LowFunc) *int { return &f.Regs }, -1, 0, 1, 3, 1<<16+1, 1<<32+4, math.MaxInt, math.MinInt)
	put("Frame", func(f *api.LowFunc) *int { return &f.Frame }, -1, 1<<16+1, math.MaxInt, math.MinInt)
	put("Answers", func(f *api.LowFunc) *int { return &f.Answers }, -1, 0, 1, 3, 9, math.MaxInt, math.MinInt)
	put("LoImm's N", func(f *api.LowFunc) *int { return &f.Blocks[0].List[3].N }, -2049, 2048, 1<<32, math.MaxInt, math.MinInt)
	put("a shift's N", func(f *api.LowFunc) *int { return &f.Blocks[0].List[4].N }, -1, 32, math.MaxInt, math.MinInt)
	put("LoLw's N", func(f *api.LowFunc) *int { return &f.Blocks[1].List[0].N }, -2049, 2048, math.MaxInt, math.MinInt)
	put("LoSw's N", func(f *api.LowFunc) *int { return &f.Blocks[1].List[2].N }, -2049, 2048, math.MaxInt, math.MinInt)
	put("LoAlloc's N", func(f *api.LowFunc) *int { return &f.Blocks[2].List[3].N }, -1, api.MaxWords+1, math.MaxInt, math.MinInt)
	put("an operation", func(f *api.LowFunc) *int { return &f.Blocks[2].List[0].Op }, 0, 12, -1, math.MaxInt, math.MinInt)
	put("an end", func(f *api.LowFunc) *int { return &f.Blocks[3].Term.Kind }, 0, 5, -1, math.MaxInt, math.MinInt)
	put("TeGoto's To", func(f *api.LowFunc) *int { return &f.Blocks[0].Term.To }, -1, 4, math.MaxInt, math.MinInt)
	put("TeIf's To", func(f *api.LowFunc) *int { return &f.Blocks[1].Term.To }, -1, 4, math.MaxInt, math.MinInt)
	put("TeIf's Else", func(f *api.LowFunc) *int { return &f.Blocks[1].Term.Else }, -1, 4, math.MaxInt, math.MinInt)
	for _, c := range list {
		f := sample()
		c.do(&f)
		wantNothing(t, c.what, f)
	}
}

// spots are where registers stand in sample: those that are set, those that are read, and where an address may begin.
type spot struct {
	what string
	at   func(f *api.LowFunc) *int
}

func setSpots() []spot {
	return []spot{
		{"the first of Params", func(f *api.LowFunc) *int { return &f.Params[0] }},
		{"the last of Params", func(f *api.LowFunc) *int { return &f.Params[1] }},
		{"D of LoLi", func(f *api.LowFunc) *int { return &f.Blocks[0].List[0].D }},
		{"D of LoMv", func(f *api.LowFunc) *int { return &f.Blocks[0].List[1].D }},
		{"D of LoBin", func(f *api.LowFunc) *int { return &f.Blocks[0].List[2].D }},
		{"D of LoImm", func(f *api.LowFunc) *int { return &f.Blocks[0].List[3].D }},
		{"D of LoLw", func(f *api.LowFunc) *int { return &f.Blocks[1].List[0].D }},
		{"D of LoRead", func(f *api.LowFunc) *int { return &f.Blocks[2].List[2].D }},
		{"D of LoAlloc", func(f *api.LowFunc) *int { return &f.Blocks[2].List[3].D }},
		{"the first of Dsts", func(f *api.LowFunc) *int { return &f.Blocks[3].List[1].Dsts[0] }},
		{"the last of the Dsts of another one", func(f *api.LowFunc) *int { return &f.Blocks[3].List[2].Dsts[7] }},
	}
}

func readSpots() []spot {
	return []spot{
		{"A of LoMv", func(f *api.LowFunc) *int { return &f.Blocks[0].List[1].A }},
		{"A of LoBin", func(f *api.LowFunc) *int { return &f.Blocks[0].List[2].A }},
		{"B of LoBin", func(f *api.LowFunc) *int { return &f.Blocks[0].List[2].B }},
		{"B of LoSw", func(f *api.LowFunc) *int { return &f.Blocks[1].List[2].B }},
		{"A of TeIf", func(f *api.LowFunc) *int { return &f.Blocks[1].Term.A }},
		{"B of TeIf", func(f *api.LowFunc) *int { return &f.Blocks[1].Term.B }},
		{"A of LoPrint", func(f *api.LowFunc) *int { return &f.Blocks[2].List[0].A }},
		{"A of LoFree", func(f *api.LowFunc) *int { return &f.Blocks[2].List[5].A }},
		{"the first of TeReturn's Args", func(f *api.LowFunc) *int { return &f.Blocks[2].Term.Args[0] }},
		{"the last of TeReturn's Args", func(f *api.LowFunc) *int { return &f.Blocks[2].Term.Args[1] }},
		{"the first of LoCall's Args", func(f *api.LowFunc) *int { return &f.Blocks[3].List[1].Args[0] }},
		{"the last of the Args of another one", func(f *api.LowFunc) *int { return &f.Blocks[3].List[2].Args[7] }},
	}
}

func beginSpots() []spot {
	return []spot{
		{"A of LoImm", func(f *api.LowFunc) *int { return &f.Blocks[0].List[3].A }},
		{"A of LoLw", func(f *api.LowFunc) *int { return &f.Blocks[1].List[0].A }},
		{"A of LoSw", func(f *api.LowFunc) *int { return &f.Blocks[1].List[3].A }},
	}
}

// TestRegisters puts registers, what stands for one, and what is none, wherever one stands.
func TestRegisters(t *testing.T) {
	put := func(s spot, want func(t *testing.T, what string, f api.LowFunc), numbers ...int) {
		for _, n := range numbers {
			f := sample()
			*s.at(&f) = n
			want(t, fmt.Sprint(s.what, " ", n), f)
		}
	}
	for _, s := range slices.Concat(setSpots(), readSpots(), beginSpots()) {
		put(s, wantSomething, 0, 1, 2, 3)
		put(s, wantNothing, 4, 5, 1<<16, 1<<32, math.MaxInt, -3, -1<<32, math.MinInt)
	}
	for _, s := range setSpots() {
		put(s, wantNothing, zero, frame)
	}
	for _, s := range readSpots() {
		put(s, wantSomething, zero)
		put(s, wantNothing, frame)
	}
	for _, s := range beginSpots() {
		put(s, wantSomething, zero, frame)
	}
}

// TestCallsOfNobody: calls of functions that are not there do not matter, however they are made.
func TestCallsOfNobody(t *testing.T) {
	many := make([]int, 1000)
	for k := range many {
		many[k] = k % 4
	}
	for _, list := range [][]api.Low{
		{calls(nil, "g")},
		{calls(nil, "")},
		{calls(nil, "main")},
		{calls(nil, "F")},
		{calls(nil, "f ")},
		{calls(nil, "g", 1), calls(nil, "g", 2, 3), calls(regs(1), "g")},
		{calls(regs(1, 1, 1), "g", 1, 1, 1)},
		{calls(many[:9], "g", many[:9]...)},
		{calls(many, "g", many...)},
		{calls(regs(), "g", regs()...), calls(regs(3), "h", zero)},
		{show(1), calls(regs(2), "g", 3), calls(regs(0, 1), "f", 2, 2), show(2), calls(regs(3), "h", 2), show(3)},
	} {
		f := sample()
		f.Blocks[3].List = list
		wantSomething(t, fmt.Sprint(list), f)
		f.Blocks[1].List = slices.Concat(f.Blocks[1].List, list, list)
		wantSomething(t, fmt.Sprint(list, " in two blocks"), f)
	}
	for _, in := range []api.Low{calls(nil, "g", 4), calls(nil, "g", frame), calls(regs(4), "g"), calls(regs(zero), "g"), calls(regs(1, -3), "g", 1), calls(regs(1), "g", 1, math.MaxInt), calls(regs(math.MinInt), "g")} {
		f := sample()
		f.Blocks[3].List = []api.Low{show(1), in}
		wantNothing(t, fmt.Sprint(in), f)
	}
	// Whose name is empty calls itself by an empty Text.
	own := api.LowFunc{Regs: 2, Params: regs(1), Blocks: []api.LowBlock{block(answer(), calls(nil, "", 0))}}
	wantLive(t, "without a name", own, sets(regs(0)), sets(nil))
	own.Blocks[0].List[0].Args = nil
	wantNothing(t, "without a name", own)
}

// fields tells what a change could be made to: each number, text, bool and list.
func fields(x reflect.Value, out []reflect.Value) []reflect.Value {
	switch x.Kind() {
	case reflect.Struct:
		for k := range x.NumField() {
			out = fields(x.Field(k), out)
		}
	case reflect.Slice:
		out = append(out, x)
		for k := range x.Len() {
			out = fields(x.Index(k), out)
		}
	default:
		out = append(out, x)
	}
	return out
}

// changed changes something by chance.
func changed(chance *rand.Rand, x reflect.Value) {
	switch x.Kind() {
	case reflect.Int:
		list := []int64{-3, -2, -1, 0, 1, 2, 3, 4, 5, 6, 7, 8, 9, 10, 11, 12, 31, 32, 128, 129, 2047, 2048, 65536, 65537, math.MaxInt, math.MinInt, x.Int() + 1, x.Int() - 1}
		x.SetInt(list[chance.Intn(len(list))])
	case reflect.String:
		x.SetString([]string{"", "main", "f", "g", "add", "sub", "sra", "xor", "eq", "ltu"}[chance.Intn(10)])
	case reflect.Bool:
		x.SetBool(!x.Bool())
	case reflect.Slice:
		if x.Len() == 0 || chance.Intn(2) == 0 {
			x.Set(reflect.Append(x, reflect.Zero(x.Type().Elem())))
		} else {
			x.Set(x.Slice(0, chance.Intn(x.Len())))
		}
	}
}

// isTaken tells whether low.Check takes a function where all others that it calls are there, each call's own one.
func isTaken(f api.LowFunc) bool {
	f = roomy(reflect.ValueOf(f)).Interface().(api.LowFunc)
	l := []api.LowFunc{f}
	for _, b := range f.Blocks {
		for at := range b.List {
			in := &b.List[at]
			if in.Op == api.LoCall && in.Text != f.Name {
				in.Text = fmt.Sprint(f.Name, " ", len(l))
				l = append(l, api.LowFunc{Name: in.Text, Regs: 1, Params: make([]int, len(in.Args)), Answers: len(in.Dsts), Blocks: []api.LowBlock{block(fail())}})
			}
		}
	}
	return low.Check(l) == api.OK
}

// TestChangedByChance: functions that are changed by chance are refused just if low.Check refuses them.
func TestChangedByChance(t *testing.T) {
	seen := map[bool]int{}
	for seed := range int64(20_000) {
		chance := rand.New(rand.NewSource(seed))
		l := made(seed % 500)
		f := l[chance.Intn(len(l))]
		all := fields(reflect.ValueOf(&f).Elem(), nil)
		for range 1 + chance.Intn(2) {
			changed(chance, all[chance.Intn(len(all))])
		}
		taken := isTaken(f)
		if taken && f.Regs < 100 {
			wantSomething(t, fmt.Sprint("seed ", seed), f)
		} else if !taken {
			wantNothing(t, fmt.Sprint("seed ", seed), f)
		}
		seen[taken]++
	}
	if seen[true] < 2000 || seen[false] < 2000 {
		t.Error(seen)
	}
}

// uses tells the fields that an operation uses.
func uses(op int) []string {
	return map[int][]string{
		api.LoLi: {"D", "N"}, api.LoMv: {"D", "A"}, api.LoBin: {"D", "A", "B", "Text"}, api.LoImm: {"D", "A", "N", "Text"}, api.LoLw: {"D", "A", "N"}, api.LoSw: {"A", "B", "N"},
		api.LoCall: {"Text", "Args", "Dsts"}, api.LoPrint: {"A", "N"}, api.LoRead: {"D"}, api.LoAlloc: {"D", "N"}, api.LoFree: {"A"},
	}[op]
}

func usesOfEnd(kind int) []string {
	return map[int][]string{api.TeGoto: {"To"}, api.TeIf: {"A", "B", "To", "Else", "Text"}, api.TeReturn: {"Args"}}[kind]
}

// fill sets the fields of a part that it does not use to those of another one.
func fill(part, odd reflect.Value, kind string, uses []string) {
	for k := range part.NumField() {
		name := part.Type().Field(k).Name
		if name != kind && !slices.Contains(uses, name) {
			part.Field(k).Set(odd.Field(k))
		}
	}
}

// TestOddFields: fields that an operation or an end does not use may be anything.
func TestOddFields(t *testing.T) {
	instrs := []api.Low{
		{D: 1, A: 0, B: 2, N: 3, Text: "f", Args: regs(0, 1, 2), Dsts: regs(0, 1)},
		{D: -7, A: 1 << 40, B: math.MinInt, N: math.MaxInt, Text: "odd", Args: regs(-5, 1<<40), Dsts: regs(math.MaxInt, -1)},
		{D: frame, A: frame, B: frame, Text: "add", Args: regs(), Dsts: regs(zero)},
	}
	ends := []api.LowTerm{
		{A: 0, B: 1, To: 0, Else: 0, Text: "eq", Args: regs(0, 1, 2)},
		{A: 1 << 40, B: math.MinInt, To: math.MaxInt, Else: -4, Text: "odd", Args: regs(-5, 1<<40)},
		{A: frame, B: frame, To: -1, Else: 1 << 40, Args: regs()},
	}
	for seed := range int64(1500) {
		for which, f := range append(made(seed), sample()) {
			odd := roomy(reflect.ValueOf(f)).Interface().(api.LowFunc)
			for k := range odd.Blocks {
				b := &odd.Blocks[k]
				for at := range b.List {
					fill(reflect.ValueOf(&b.List[at]).Elem(), reflect.ValueOf(instrs[(at+which+k)%3]), "Op", uses(b.List[at].Op))
				}
				fill(reflect.ValueOf(&b.Term).Elem(), reflect.ValueOf(ends[(which+k)%3]), "Kind", usesOfEnd(b.Term.Kind))
			}
			odd.Quiet, odd.Frame = !odd.Quiet, 1<<16
			in, out := live.Live(f)
			oddIn, oddOut := live.Live(odd)
			if len(in) == 0 || !alike(in, oddIn) || !alike(out, oddOut) || !slices.Equal(live.Ranges(f), live.Ranges(odd)) {
				t.Fatalf("seed %d: %+v is not told as %+v", seed, odd, f)
			}
		}
	}
}

// TestEmptyLists: a list without an element may be nil or empty.
func TestEmptyLists(t *testing.T) {
	bare := api.LowFunc{Blocks: []api.LowBlock{block(branch(zero, "eq", zero, 0, 1)), block(answer(), calls(nil, ""), calls(nil, "g"))}}
	empty := api.LowFunc{Params: regs(), Blocks: []api.LowBlock{bare.Blocks[0], {List: []api.Low{calls(regs(), ""), calls(regs(), "g", regs()...)}, Term: answer(regs()...)}}}
	empty.Blocks[0].List, empty.Blocks[0].Term.Args = []api.Low{}, regs()
	for _, f := range []api.LowFunc{bare, empty} {
		wantLive(t, "empty lists", f, sets(nil, nil), sets(nil, nil))
		wantRanges(t, "empty lists", f)
		f.Regs = 1
		wantRanges(t, "empty lists", f, unused())
	}
}
