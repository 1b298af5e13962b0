package low_test

import (
	"math"
	"slices"
	"testing"

	"ferrule/api"
	"ferrule/low"
)

// The registers of sample's function f: it has four, of which 0 and 3 are params.
const regs = 4

// sample is functions that nothing is against, with each operation and each end, every number at a bound where there is one.
func sample() []api.LowFunc {
	return []api.LowFunc{
		fn("main", 0, nil, 0, 0, block(answer())),
		fn("f", regs, []int{0, 3}, 2, 1<<16,
			block(jump(3), li(1, math.MaxInt), mv(2, zero), bin(3, 0, "mulhu", zero), imm(0, frame, "add", -2048), imm(0, zero, "sra", 31)),
			block(branch(zero, "ltu", 3, 0, 3), lw(1, frame, 2047), lw(2, 1, -2048), sw(frame, -2048, zero), sw(1, 2047, 3)),
			block(answer(2, zero), show(1), showFrom0(zero), read(2), alloc(3, 0), alloc(3, api.MaxWords), free(3), free(zero)),
			block(fail(), calls(nil, "main"), calls([]int{1, 1}, "f", 2, zero), calls([]int{0, 1, 2, 3, 0, 1, 2, 3}, "g", 0, 1, 2, 3, 0, 1, 2, zero)),
		),
		fn("g", 1<<16, []int{0, 1, 2, 3, 4, 5, 6, 1<<16 - 1}, api.MaxPass, 0, block(answer(1, 2, 3, 4, 5, 6, 7, zero))),
		fn("", 0, nil, 0, 0, block(jump(0))),
	}
}

func TestCheckTakes(t *testing.T) {
	for _, l := range [][]api.LowFunc{sample(), nil, {}, {fn("", 0, nil, 0, 0, block(fail()))}, {fn("main", 1, []int{0, 0, 0}, 8, 0, block(fail()))}, {fn("f", 1<<16, nil, 0, 1<<16, block(fail()))}} {
		if e := low.Check(l); e != api.OK {
			t.Error(e, l)
		}
	}
}

// change is something done to sample, and whether nothing is against it then.
type change struct {
	what string
	ok   bool
	do   func(l []api.LowFunc, f *api.LowFunc)
}

func holdChanges(t *testing.T, list ...change) {
	t.Helper()
	for _, c := range list {
		l := sample()
		c.do(l, &l[1])
		want := api.ErrForm
		if c.ok {
			want = api.OK
		}
		if got := low.Check(l); got != want {
			t.Errorf("%s: %v, not %v", c.what, got, want)
		}
		if out, steps := low.Run(l, nil, plenty); !c.ok && (!alike(out, outcome(api.OutStuck, 0)) || steps != 0) {
			t.Errorf("%s: it is run: %+v, %d", c.what, out, steps)
		}
	}
}

func TestCheckHeads(t *testing.T) {
	list := []change{
		{"two of one name", false, func(l []api.LowFunc, f *api.LowFunc) { l[3].Name = "main" }},
		{"two that are alike", false, func(l []api.LowFunc, f *api.LowFunc) { l[3] = l[0] }},
		{"two without a name", false, func(l []api.LowFunc, f *api.LowFunc) { l[0].Name = "" }},
		{"names that differ by a byte", true, func(l []api.LowFunc, f *api.LowFunc) { l[3].Name = "main\x00" }},
		{"no block", false, func(l []api.LowFunc, f *api.LowFunc) { l[0].Blocks = nil }},
		{"an empty list of blocks", false, func(l []api.LowFunc, f *api.LowFunc) { l[3].Blocks = []api.LowBlock{} }},
		{"a quiet one", true, func(l []api.LowFunc, f *api.LowFunc) { f.Quiet, l[0].Quiet = true, true }},
		{"too many Params", false, func(l []api.LowFunc, f *api.LowFunc) {
			l[2].Params = append(l[2].Params, 7)
			f.Blocks[3].List[2].Args = append(f.Blocks[3].List[2].Args, 0)
		}},
		{"too many Params of one that nobody calls", false, func(l []api.LowFunc, f *api.LowFunc) { l[3].Params, l[3].Regs = make([]int, 9), 1 }},
		{"many Params of one that nobody calls", true, func(l []api.LowFunc, f *api.LowFunc) { l[3].Params, l[3].Regs = make([]int, 8), 1 }},
		{"one register twice among the Params", true, func(l []api.LowFunc, f *api.LowFunc) { f.Params = []int{3, 3} }},
		{"too many Answers", false, func(l []api.LowFunc, f *api.LowFunc) {
			l[2].Answers = api.MaxPass + 1
			l[2].Blocks[0].Term.Args = make([]int, api.MaxPass+1)
			f.Blocks[3].List[2].Dsts = make([]int, api.MaxPass+1)
		}},
		{"too many Answers of one that does not answer", false, func(l []api.LowFunc, f *api.LowFunc) { l[3].Answers = api.MaxPass + 1 }},
		{"many Answers of one that does not answer", true, func(l []api.LowFunc, f *api.LowFunc) { l[3].Answers = api.MaxPass }},
	}
	for _, n := range []int{-1, 1<<16 + 1, 1 << 32, math.MaxInt, math.MinInt} {
		list = append(list, change{"Regs", false, func(l []api.LowFunc, f *api.LowFunc) { l[3].Regs = n }},
			change{"Frame", false, func(l []api.LowFunc, f *api.LowFunc) { l[3].Frame = n }},
			change{"Answers", false, func(l []api.LowFunc, f *api.LowFunc) { l[3].Answers = n }})
	}
	for _, n := range []int{0, 1, 2000, 1 << 16} {
		list = append(list, change{"Regs", true, func(l []api.LowFunc, f *api.LowFunc) { l[3].Regs = n }},
			change{"Frame", true, func(l []api.LowFunc, f *api.LowFunc) { l[3].Frame = n }})
	}
	holdChanges(t, list...)
}

// spots are where registers stand in sample's f: those that are set, that are read, and at which an address may begin.
type spot struct {
	what string
	at   func(f *api.LowFunc) *int
}

func setSpots() []spot {
	return []spot{
		{"the first of Params", func(f *api.LowFunc) *int { return &f.Params[0] }},
		{"the last of Params", func(f *api.LowFunc) *int { return &f.Params[1] }},
		{"D of LoLi", func(f *api.LowFunc) *int { return &f.Blocks[0].List[0].D }},
		{"D of LoMv", func(f *api.LowFunc) *int { return &f.Blocks[0].List[1].D }},
		{"D of LoBin", func(f *api.LowFunc) *int { return &f.Blocks[0].List[2].D }},
		{"D of LoImm", func(f *api.LowFunc) *int { return &f.Blocks[0].List[3].D }},
		{"D of a shift's LoImm", func(f *api.LowFunc) *int { return &f.Blocks[0].List[4].D }},
		{"D of LoLw", func(f *api.LowFunc) *int { return &f.Blocks[1].List[0].D }},
		{"D of LoRead", func(f *api.LowFunc) *int { return &f.Blocks[2].List[2].D }},
		{"D of LoAlloc", func(f *api.LowFunc) *int { return &f.Blocks[2].List[3].D }},
		{"the first of Dsts", func(f *api.LowFunc) *int { return &f.Blocks[3].List[1].Dsts[0] }},
		{"the last of Dsts", func(f *api.LowFunc) *int { return &f.Blocks[3].List[2].Dsts[7] }},
	}
}

func readSpots() []spot {
	return []spot{
		{"A of LoMv", func(f *api.LowFunc) *int { return &f.Blocks[0].List[1].A }},
		{"A of LoBin", func(f *api.LowFunc) *int { return &f.Blocks[0].List[2].A }},
		{"B of LoBin", func(f *api.LowFunc) *int { return &f.Blocks[0].List[2].B }},
		{"B of LoSw", func(f *api.LowFunc) *int { return &f.Blocks[1].List[2].B }},
		{"A of TeIf", func(f *api.LowFunc) *int { return &f.Blocks[1].Term.A }},
		{"B of TeIf", func(f *api.LowFunc) *int { return &f.Blocks[1].Term.B }},
		{"A of LoPrint", func(f *api.LowFunc) *int { return &f.Blocks[2].List[0].A }},
		{"A of LoPrint from 0 on", func(f *api.LowFunc) *int { return &f.Blocks[2].List[1].A }},
		{"A of LoFree", func(f *api.LowFunc) *int { return &f.Blocks[2].List[5].A }},
		{"the first of TeReturn's Args", func(f *api.LowFunc) *int { return &f.Blocks[2].Term.Args[0] }},
		{"the last of TeReturn's Args", func(f *api.LowFunc) *int { return &f.Blocks[2].Term.Args[1] }},
		{"the first of LoCall's Args", func(f *api.LowFunc) *int { return &f.Blocks[3].List[1].Args[0] }},
		{"the last of LoCall's Args", func(f *api.LowFunc) *int { return &f.Blocks[3].List[2].Args[7] }},
	}
}

func beginSpots() []spot {
	return []spot{
		{"A of LoImm", func(f *api.LowFunc) *int { return &f.Blocks[0].List[3].A }},
		{"A of a shift's LoImm", func(f *api.LowFunc) *int { return &f.Blocks[0].List[4].A }},
		{"A of LoLw", func(f *api.LowFunc) *int { return &f.Blocks[1].List[0].A }},
		{"A of LoSw", func(f *api.LowFunc) *int { return &f.Blocks[1].List[3].A }},
	}
}

// TestCheckRegisters puts registers, what stands for one, and what is none, wherever one stands.
func TestCheckRegisters(t *testing.T) {
	put := func(s spot, ok bool, numbers ...int) {
		for _, n := range numbers {
			holdChanges(t, change{s.what, ok, func(l []api.LowFunc, f *api.LowFunc) { *s.at(f) = n }})
		}
	}
	for _, s := range slices.Concat(setSpots(), readSpots(), beginSpots()) {
		put(s, true, 0, 1, 2, 3)
		put(s, false, regs, regs+1, 1<<16, 1<<32, math.MaxInt, -3, -4, -1<<32, math.MinInt)
	}
	for _, s := range setSpots() {
		put(s, false, zero, frame)
	}
	for _, s := range readSpots() {
		put(s, true, zero)
		put(s, false, frame)
	}
	for _, s := range beginSpots() {
		put(s, true, zero, frame)
	}
}

// TestCheckOwnRegisters: which registers there are is asked of the function itself, not of another one.
func TestCheckOwnRegisters(t *testing.T) {
	holdChanges(t,
		change{"a function without registers", false, func(l []api.LowFunc, f *api.LowFunc) { l[0].Blocks[0].List = []api.Low{li(0, 1)} }},
		change{"one with a register", true, func(l []api.LowFunc, f *api.LowFunc) { l[0].Blocks[0].List, l[0].Regs = []api.Low{li(0, 1)}, 1 }},
		change{"one with the most registers", true, func(l []api.LowFunc, f *api.LowFunc) { l[2].Blocks[0].List = []api.Low{mv(1<<16-1, 1<<16-1)} }},
		change{"one beyond the most registers", false, func(l []api.LowFunc, f *api.LowFunc) { l[2].Blocks[0].List = []api.Low{mv(0, 1<<16)} }},
		change{"the frame of one without a frame", true, func(l []api.LowFunc, f *api.LowFunc) { l[0].Blocks[0].List = []api.Low{sw(frame, 0, zero)} }},
	)
}

func TestCheckNumbers(t *testing.T) {
	var list []change
	put := func(what string, block, at, from, to int, texts ...string) {
		for _, text := range append(texts, "")[:max(len(texts), 1)] {
			for _, n := range []int{from, from + 1, 0, to - 1, to, from - 1, to + 1, -1, 1 << 12, 1<<32 + from, -1<<32 + to, math.MaxInt, math.MinInt} {
				list = append(list, change{what + " " + text, n >= from && n <= to, func(l []api.LowFunc, f *api.LowFunc) {
					f.Blocks[block].List[at].N, f.Blocks[block].List[at].Text = n, text
				}})
			}
		}
	}
	put("LoImm", 0, 3, -2048, 2047, "add", "and", "or", "xor", "slt", "sltu")
	put("LoImm", 0, 4, 0, 31, "sll", "srl", "sra")
	put("LoLw", 1, 0, -2048, 2047)
	put("LoSw", 1, 2, -2048, 2047)
	put("LoAlloc", 2, 3, 0, api.MaxWords)
	holdChanges(t, list...)
}

// operations are all names of mir.Do.
func operations() []string {
	return []string{"add", "sub", "mul", "mulh", "mulhu", "div", "divu", "rem", "remu", "and", "or", "xor", "sll", "srl", "sra", "slt", "sltu"}
}

func immediates() []string {
	return []string{"add", "and", "or", "xor", "slt", "sltu", "sll", "srl", "sra"}
}

func TestCheckTexts(t *testing.T) {
	var list []change
	put := func(what string, ok bool, at func(f *api.LowFunc) *string, text string) {
		list = append(list, change{what + " " + text, ok, func(l []api.LowFunc, f *api.LowFunc) { *at(f) = text }})
	}
	inBin := func(f *api.LowFunc) *string { return &f.Blocks[0].List[2].Text }
	inImm := func(f *api.LowFunc) *string { f.Blocks[0].List[3].N = 1; return &f.Blocks[0].List[3].Text }
	inIf := func(f *api.LowFunc) *string { return &f.Blocks[1].Term.Text }
	inCall := func(f *api.LowFunc) *string { return &f.Blocks[3].List[0].Text }
	for _, text := range operations() {
		put("LoBin", true, inBin, text)
		put("LoImm", slices.Contains(immediates(), text), inImm, text)
		put("TeIf", false, inIf, text)
	}
	for _, text := range texts() {
		put("TeIf", true, inIf, text)
		put("LoBin", false, inBin, text)
		put("LoImm", false, inImm, text)
	}
	for _, text := range []string{"", "addi", "Add", "subi", "slti", "mulhsu", "not", "add ", "main"} {
		put("LoBin", false, inBin, text)
		put("LoImm", false, inImm, text)
		put("TeIf", false, inIf, text)
	}
	for _, text := range otherTexts() {
		put("TeIf", false, inIf, text)
	}
	for _, text := range []string{"h", "Main", "main ", "\x00", "add"} {
		put("LoCall of nobody", false, inCall, text)
	}
	put("LoCall of itself", false, inCall, "f")
	put("LoCall of one without a name", true, inCall, "")
	holdChanges(t, list...)
}

func TestCheckCalls(t *testing.T) {
	pass := func(what string, ok bool, at int, args, dsts []int) change {
		return change{what, ok, func(l []api.LowFunc, f *api.LowFunc) {
			f.Blocks[3].List[at].Args, f.Blocks[3].List[at].Dsts = args, dsts
		}}
	}
	holdChanges(t,
		pass("nothing", true, 0, []int{}, []int{}), pass("an Arg too many", false, 0, []int{1}, nil), pass("a Dst too many", false, 0, nil, []int{1}),
		pass("two of each", true, 1, []int{0, 0}, []int{3, 3}), pass("an Arg too few", false, 1, []int{0}, []int{1, 2}), pass("a Dst too few", false, 1, []int{0, 0}, []int{1}),
		pass("an Arg more", false, 1, []int{0, 0, 0}, []int{1, 2}), pass("a Dst more", false, 1, []int{0, 0}, []int{1, 2, 3}), pass("none", false, 1, nil, nil),
		pass("eight", true, 2, make([]int, 8), make([]int, 8)), pass("seven Args", false, 2, make([]int, 7), make([]int, 8)), pass("nine Dsts", false, 2, make([]int, 8), make([]int, 9)),
		change{"Dsts as many as Params, Args as Answers", false, func(l []api.LowFunc, f *api.LowFunc) {
			l[3].Regs, l[3].Params, l[3].Answers = 1, []int{0, 0, 0}, 1
			f.Blocks[3].List[0] = calls([]int{0, 1, 2}, "", 0)
		}},
		change{"a call of a function ahead of it", true, func(l []api.LowFunc, f *api.LowFunc) { l[3].Blocks[0].List = []api.Low{calls(nil, "main")} }},
		change{"a call of itself", true, func(l []api.LowFunc, f *api.LowFunc) { l[0].Blocks[0].List = []api.Low{calls(nil, "main")} }},
	)
}

func TestCheckEnds(t *testing.T) {
	var list []change
	put := func(what string, ok bool, block int, end api.LowTerm) {
		list = append(list, change{what, ok, func(l []api.LowFunc, f *api.LowFunc) { f.Blocks[block].Term = end }})
	}
	for _, kind := range []int{0, 5, -1, 6, 1 << 32, math.MaxInt, math.MinInt} {
		put("an end of another kind", false, 2, api.LowTerm{Kind: kind, Args: []int{0, 0}, Text: "eq"})
	}
	for _, to := range []int{-1, 4, 5, 1 << 32, math.MaxInt, math.MinInt} {
		put("TeGoto to no block", false, 0, jump(to))
		put("TeIf to no block", false, 1, branch(0, "eq", 0, to, 0))
		put("TeIf else to no block", false, 1, branch(0, "eq", 0, 0, to))
	}
	for to := range 4 {
		put("TeGoto", true, to, jump(to))
		put("TeIf", true, to, branch(0, "eq", 0, to, 3-to))
	}
	put("TeReturn of two", true, 3, answer(0, 0))
	put("TeReturn of none", false, 3, answer())
	put("TeReturn of one", false, 3, answer(0))
	put("TeReturn of three", false, 3, answer(0, 0, 0))
	list = append(list, change{"TeReturn of one in main", false, func(l []api.LowFunc, f *api.LowFunc) { l[0].Blocks[0].Term.Args = []int{zero} }},
		change{"another function's blocks", false, func(l []api.LowFunc, f *api.LowFunc) { l[0].Blocks[0].Term = jump(1) }})
	holdChanges(t, list...)
}

// TestCheckAllOver spoils one instruction, and the end, of each block, come to or not, and of each function.
func TestCheckAllOver(t *testing.T) {
	for k := range sample() {
		for b := range sample()[k].Blocks {
			for _, op := range []int{0, 12, -1, 13, 1 << 32, math.MaxInt, math.MinInt} {
				holdChanges(t,
					change{"another operation ahead", false, func(l []api.LowFunc, f *api.LowFunc) {
						l[k].Blocks[b].List = append([]api.Low{{Op: op}}, l[k].Blocks[b].List...)
					}},
					change{"another operation behind", false, func(l []api.LowFunc, f *api.LowFunc) {
						l[k].Blocks[b].List = append(l[k].Blocks[b].List, api.Low{Op: op})
					}})
			}
			holdChanges(t, change{"an end", false, func(l []api.LowFunc, f *api.LowFunc) { l[k].Blocks[b].Term = api.LowTerm{} }})
		}
	}
}

// TestCheckUnused sets all that an operation, or an end, does not use to anything.
func TestCheckUnused(t *testing.T) {
	for _, wild := range []int{-1, -2, -3, 1 << 20, math.MaxInt, math.MinInt} {
		list := []int{wild, wild}
		any := api.Low{D: wild, A: wild, B: wild, N: wild, Text: "?", Args: list, Dsts: list}
		for b := range 4 {
			for at, in := range sample()[1].Blocks[b].List {
				holdChanges(t, change{"an instruction", true, func(l []api.LowFunc, f *api.LowFunc) { f.Blocks[b].List[at] = spoilt(in, any) }})
			}
			end := spoiltEnd(sample()[1].Blocks[b].Term, api.LowTerm{A: wild, B: wild, To: wild, Else: wild, Text: "?", Args: list})
			holdChanges(t, change{"an end", true, func(l []api.LowFunc, f *api.LowFunc) { f.Blocks[b].Term = end }})
		}
	}
}

// uses tells by letters what an operation uses: D, A, B, N, Text, Calls' lists.
func uses(op int) string {
	return map[int]string{api.LoLi: "DN", api.LoMv: "DA", api.LoBin: "DABT", api.LoImm: "DATN", api.LoLw: "DAN", api.LoSw: "ABN", api.LoCall: "TC", api.LoPrint: "AN", api.LoRead: "D", api.LoAlloc: "DN", api.LoFree: "A"}[op]
}

// spoilt is an instruction in which all that it does not use is another one's. A LoPrint's N may be anything, but means something.
func spoilt(in, any api.Low) api.Low {
	any.Op = in.Op
	for _, letter := range uses(in.Op) {
		switch letter {
		case 'D':
			any.D = in.D
		case 'A':
			any.A = in.A
		case 'B':
			any.B = in.B
		case 'N':
			any.N = in.N
		case 'T':
			any.Text = in.Text
		case 'C':
			any.Args, any.Dsts = in.Args, in.Dsts
		}
	}
	return any
}

func spoiltEnd(end, any api.LowTerm) api.LowTerm {
	any.Kind = end.Kind
	switch end.Kind {
	case api.TeGoto:
		any.To = end.To
	case api.TeIf:
		any.A, any.B, any.To, any.Else, any.Text = end.A, end.B, end.To, end.Else, end.Text
	case api.TeReturn:
		any.Args = end.Args
	}
	return any
}
