package mir

import (
	"math"
	"testing"

	"ferrule/api"
)

// The locals of sample's function f: two params, scalars, and others.
const (
	one   = 0 // a param of one word
	three = 1 // a param of three
	x     = 2 // scalars
	y     = 3
	none  = 4 // of no words
	wide  = 5 // of as many words as a local may have
	pair  = 6
	many  = 7 // how many there are
)

// sample is functions that nothing is against, with each operation and each end, every number at a bound where there is one.
func sample() []api.Mir {
	box := ty(api.TyBox, ty(api.TyU8))
	return []api.Mir{
		fn("main", nil, 0, 0, block(answer())),
		fn("f", []int{1, 3, 1, 1, 0, 4 * api.MaxWords, 2}, 2, 2,
			block(jump(3), set(x, n(math.MaxInt)), bin(y, v(x), "add", n(math.MinInt)), load(x, at(wide, on(1<<16), times(y, 1<<16), held(), on(0), times(y, 0)))),
			block(branch(v(x), 0, 3), store(at(pair), v(one)), move(api.MaxWords, at(wide), at(three)), move(0, at(none), at(pair, on(1))), addr(y, at(none)), alloc(x, 0), alloc(x, api.MaxWords), free(v(x)), free(n(0))),
			block(answer(v(x), n(3)), drop(box, at(x)), give(wide), take(none), empty(box, pair), show(v(x)), showFrom0(n(1)), read(x)),
			block(fail(), calls(nil, "main"), calls([]int{x, x}, "f", v(x), n(1), v(y), n(2)), calls([]int{x, x, y, y, x, x, y, y}, "g")),
		),
		fn("g", []int{}, 0, api.MaxPass, block(answer(n(1), n(2), n(3), n(4), n(5), n(6), n(7), n(8)))),
		fn("", []int{4, 4, 9}, 2, 0, block(answer())),
	}
}

func TestCheckTakes(t *testing.T) {
	if e := Check(sample()); e != api.OK {
		t.Error(e)
	}
	for _, l := range [][]api.Mir{nil, {}, {fn("", nil, 0, 0, block(fail()))}, {fn("main", []int{8}, 1, 8, block(fail()))}} {
		if e := Check(l); e != api.OK {
			t.Error(e, l)
		}
	}
}

// change is something done to sample, and whether nothing is against it then.
type change struct {
	what string
	ok   bool
	do   func(l []api.Mir, f *api.Mir)
}

func holdChanges(t *testing.T, list []change) {
	t.Helper()
	for _, c := range list {
		l := sample()
		c.do(l, &l[1])
		want := api.ErrForm
		if c.ok {
			want = api.OK
		}
		if got := Check(l); got != want {
			t.Errorf("%s: %v, not %v", c.what, got, want)
		}
	}
}

func TestCheckHeads(t *testing.T) {
	holdChanges(t, []change{
		{"two of one name", false, func(l []api.Mir, f *api.Mir) { l[2].Name = "main" }},
		{"two without a name", false, func(l []api.Mir, f *api.Mir) { l[0].Name = "" }},
		{"names that differ by a byte", true, func(l []api.Mir, f *api.Mir) { l[3].Name = "\x00" }},
		{"no block", false, func(l []api.Mir, f *api.Mir) { l[0].Blocks = nil }},
		{"an empty list of blocks", false, func(l []api.Mir, f *api.Mir) { l[3].Blocks = []api.Block{} }},
		{"words below 0", false, func(l []api.Mir, f *api.Mir) { f.Locals[none] = -1 }},
		{"words far below 0", false, func(l []api.Mir, f *api.Mir) { f.Locals[none] = math.MinInt }},
		{"too many words", false, func(l []api.Mir, f *api.Mir) { f.Locals[wide] = 4*api.MaxWords + 1 }},
		{"far too many words", false, func(l []api.Mir, f *api.Mir) { f.Locals[wide] = math.MaxInt }},
		{"Params below 0", false, func(l []api.Mir, f *api.Mir) { l[0].Params = -1 }},
		{"more Params than locals", false, func(l []api.Mir, f *api.Mir) { l[0].Params = 1 }},
		{"far more Params than locals", false, func(l []api.Mir, f *api.Mir) { l[3].Params = math.MaxInt }},
		{"as many Params as locals", true, func(l []api.Mir, f *api.Mir) { l[3].Locals = []int{4, 4, 0}; l[3].Params = 3 }},
		{"Answers below 0", false, func(l []api.Mir, f *api.Mir) { l[3].Answers = -1 }},
		{"too many Answers", false, func(l []api.Mir, f *api.Mir) {
			l[2].Answers = api.MaxPass + 1
			l[2].Blocks[0].Term.Args = make([]api.Operand, api.MaxPass+1)
			for k := range l[2].Blocks[0].Term.Args {
				l[2].Blocks[0].Term.Args[k].Const = true
			}
			f.Blocks[3].List = nil
		}},
		{"params of too many words", false, func(l []api.Mir, f *api.Mir) { l[3].Locals[1] = 5 }},
		{"params of far too many words", false, func(l []api.Mir, f *api.Mir) { l[3].Params = 3 }},
		{"params of no words", true, func(l []api.Mir, f *api.Mir) { l[3].Locals = make([]int, 1000); l[3].Params = 1000 }},
		{"a quiet one", true, func(l []api.Mir, f *api.Mir) { f.Quiet = true; l[0].Quiet = true }},
	})
}

// notScalars are numbers that are no scalar of sample's f.
func notScalars() []int {
	return []int{-1, math.MinInt, many, math.MaxInt, three, none, wide, pair}
}

// TestCheckScalars puts what is no scalar, and each scalar, wherever one is needed.
func TestCheckScalars(t *testing.T) {
	puts := map[string]func(f *api.Mir, k int){
		"Dst of OpSet":       func(f *api.Mir, k int) { f.Blocks[0].List[0].Dst = k },
		"A of OpSet":         func(f *api.Mir, k int) { f.Blocks[0].List[0].A = v(k) },
		"Dst of OpBin":       func(f *api.Mir, k int) { f.Blocks[0].List[1].Dst = k },
		"A of OpBin":         func(f *api.Mir, k int) { f.Blocks[0].List[1].A = v(k) },
		"B of OpBin":         func(f *api.Mir, k int) { f.Blocks[0].List[1].B = v(k) },
		"Dst of OpLoad":      func(f *api.Mir, k int) { f.Blocks[0].List[2].Dst = k },
		"an index":           func(f *api.Mir, k int) { f.Blocks[0].List[2].P.Steps[1].N = k },
		"the last index":     func(f *api.Mir, k int) { f.Blocks[0].List[2].P.Steps[4].N = k },
		"A of OpStore":       func(f *api.Mir, k int) { f.Blocks[1].List[0].A = v(k) },
		"Dst of OpAddr":      func(f *api.Mir, k int) { f.Blocks[1].List[3].Dst = k },
		"Dst of OpAlloc":     func(f *api.Mir, k int) { f.Blocks[1].List[4].Dst = k },
		"A of OpFree":        func(f *api.Mir, k int) { f.Blocks[1].List[6].A = v(k) },
		"A of TeIf":          func(f *api.Mir, k int) { f.Blocks[1].Term.A = v(k) },
		"A of OpPrint":       func(f *api.Mir, k int) { f.Blocks[2].List[4].A = v(k) },
		"Dst of OpRead":      func(f *api.Mir, k int) { f.Blocks[2].List[6].Dst = k },
		"Args of TeReturn":   func(f *api.Mir, k int) { f.Blocks[2].Term.Args[1] = v(k) },
		"Args of OpCall":     func(f *api.Mir, k int) { f.Blocks[3].List[1].Args[3] = v(k) },
		"Dsts of OpCall":     func(f *api.Mir, k int) { f.Blocks[3].List[1].Dsts[1] = k },
		"an index of a copy": func(f *api.Mir, k int) { f.Blocks[1].List[1].Q.Steps = []api.Step{times(k, 1)} },
		"an index of a drop": func(f *api.Mir, k int) { f.Blocks[2].List[0].P.Steps = []api.Step{times(k, 1)} },
	}
	for what, put := range puts {
		for _, k := range notScalars() {
			holdChanges(t, []change{{what, false, func(l []api.Mir, f *api.Mir) { put(f, k) }}})
		}
		for _, k := range []int{one, x, y} {
			holdChanges(t, []change{{what, true, func(l []api.Mir, f *api.Mir) { put(f, k) }}})
		}
	}
}

// TestCheckLocals puts what is no local, and each local, wherever one of any words may stand.
func TestCheckLocals(t *testing.T) {
	puts := map[string]func(f *api.Mir, k int){
		"P of OpLoad":    func(f *api.Mir, k int) { f.Blocks[0].List[2].P.Local = k },
		"P of OpStore":   func(f *api.Mir, k int) { f.Blocks[1].List[0].P.Local = k },
		"P of OpCopy":    func(f *api.Mir, k int) { f.Blocks[1].List[1].P.Local = k },
		"Q of OpCopy":    func(f *api.Mir, k int) { f.Blocks[1].List[1].Q.Local = k },
		"P of OpAddr":    func(f *api.Mir, k int) { f.Blocks[1].List[3].P.Local = k },
		"P of OpDrop":    func(f *api.Mir, k int) { f.Blocks[2].List[0].P.Local = k },
		"Dst of OpGive":  func(f *api.Mir, k int) { f.Blocks[2].List[1].Dst = k },
		"Dst of OpTake":  func(f *api.Mir, k int) { f.Blocks[2].List[2].Dst = k },
		"Dst of OpClear": func(f *api.Mir, k int) { f.Blocks[2].List[3].Dst = k },
	}
	for what, put := range puts {
		for _, k := range []int{-1, many, math.MaxInt, math.MinInt} {
			holdChanges(t, []change{{what, false, func(l []api.Mir, f *api.Mir) { put(f, k) }}})
		}
		for k := range many {
			holdChanges(t, []change{{what, true, func(l []api.Mir, f *api.Mir) { put(f, k) }}})
		}
	}
}

func TestCheckSteps(t *testing.T) {
	var list []change
	step := func(what string, ok bool, s api.Step) {
		list = append(list, change{what, ok, func(l []api.Mir, f *api.Mir) { f.Blocks[0].List[2].P.Steps[0] = s }},
			change{what + " of Q", ok, func(l []api.Mir, f *api.Mir) { f.Blocks[1].List[1].Q.Steps = []api.Step{held(), s} }})
	}
	for _, k := range []int{0, 4, -1, math.MaxInt, math.MinInt} {
		step("a step of another kind", false, api.Step{Kind: k, N: x, Size: 1})
	}
	for _, k := range []int{-1, 1<<16 + 1, math.MinInt, math.MaxInt} {
		step("a StAdd", false, on(k))
		step("a Size", false, times(x, k))
	}
	for _, k := range []int{0, 1, 1 << 16} {
		step("a StAdd", true, on(k))
		step("a Size", true, times(x, k))
	}
	step("a StAdd with a Size", true, api.Step{Kind: api.StAdd, N: 1, Size: -1})
	step("a StHeld with numbers", true, api.Step{Kind: api.StHeld, N: -1, Size: -1})
	holdChanges(t, list)
}

func TestCheckEnds(t *testing.T) {
	list := []change{
		{"TeReturn with too few Args", false, func(l []api.Mir, f *api.Mir) { f.Blocks[2].Term.Args = []api.Operand{n(1)} }},
		{"TeReturn with none", false, func(l []api.Mir, f *api.Mir) { f.Blocks[2].Term.Args = nil }},
		{"TeReturn with too many Args", false, func(l []api.Mir, f *api.Mir) { f.Blocks[2].Term.Args = []api.Operand{n(1), n(1), n(1)} }},
		{"TeReturn of nothing with Args", false, func(l []api.Mir, f *api.Mir) { l[0].Blocks[0].Term.Args = []api.Operand{n(1)} }},
		{"TePanic with anything", true, func(l []api.Mir, f *api.Mir) {
			f.Blocks[3].Term = api.Term{Kind: api.TePanic, A: v(-1), To: -1, Else: 99, Args: []api.Operand{v(-1)}}
		}},
		{"TeGoto with anything", true, func(l []api.Mir, f *api.Mir) {
			f.Blocks[0].Term = api.Term{Kind: api.TeGoto, A: v(-1), Else: 99, Args: []api.Operand{v(-1)}}
		}},
		{"TeReturn with anything", true, func(l []api.Mir, f *api.Mir) {
			l[0].Blocks[0].Term = api.Term{Kind: api.TeReturn, A: v(-1), To: -1, Else: 99}
		}},
		{"TeIf with Args", true, func(l []api.Mir, f *api.Mir) { f.Blocks[1].Term.Args = []api.Operand{v(-1)} }},
	}
	for _, k := range []int{0, 5, -1, math.MaxInt, math.MinInt} {
		list = append(list, change{"an end of another kind", false, func(l []api.Mir, f *api.Mir) { f.Blocks[3].Term.Kind = k }})
	}
	for _, k := range []int{-1, 4, math.MaxInt, math.MinInt} {
		list = append(list, change{"TeGoto to no block", false, func(l []api.Mir, f *api.Mir) { f.Blocks[0].Term.To = k }},
			change{"TeIf to no block", false, func(l []api.Mir, f *api.Mir) { f.Blocks[1].Term.To = k }},
			change{"TeIf else to no block", false, func(l []api.Mir, f *api.Mir) { f.Blocks[1].Term.Else = k }})
	}
	for k := range 4 {
		list = append(list, change{"TeGoto to a block", true, func(l []api.Mir, f *api.Mir) { f.Blocks[0].Term.To = k }},
			change{"TeIf to blocks", true, func(l []api.Mir, f *api.Mir) { f.Blocks[1].Term.To = k; f.Blocks[1].Term.Else = 3 - k }})
	}
	holdChanges(t, list)
}

func TestCheckInstrs(t *testing.T) {
	list := []change{
		{"a call of nobody", false, func(l []api.Mir, f *api.Mir) { f.Blocks[3].List[0].Text = "h" }},
		{"a call of itself", true, func(l []api.Mir, f *api.Mir) { l[0].Blocks[0].List = []api.Instr{calls(nil, "main")} }},
		{"a call of one without a name", true, func(l []api.Mir, f *api.Mir) {
			f.Blocks[3].List[0] = calls(nil, "", n(1), n(2), n(3), n(4), n(5), n(6), n(7), n(8))
		}},
		{"a call with too few Args", false, func(l []api.Mir, f *api.Mir) { f.Blocks[3].List[1].Args = []api.Operand{n(1), n(2), n(3)} }},
		{"a call with too many Args", false, func(l []api.Mir, f *api.Mir) { f.Blocks[3].List[0].Args = []api.Operand{n(1)} }},
		{"as many Args as params, not as their words", false, func(l []api.Mir, f *api.Mir) { f.Blocks[3].List[1].Args = []api.Operand{n(1), n(2)} }},
		{"a call with too few Dsts", false, func(l []api.Mir, f *api.Mir) { f.Blocks[3].List[1].Dsts = []int{x} }},
		{"a call with too many Dsts", false, func(l []api.Mir, f *api.Mir) { f.Blocks[3].List[0].Dsts = []int{x} }},
		{"what OpSet does not use", true, func(l []api.Mir, f *api.Mir) {
			f.Blocks[0].List[0] = api.Instr{Op: api.OpSet, Dst: x, A: n(1), B: v(-1), P: at(-1), Q: at(99, api.Step{}), N: -1, Text: "?", Args: []api.Operand{v(-1)}, Dsts: []int{-1}}
		}},
		{"what OpPrint does not use", true, func(l []api.Mir, f *api.Mir) {
			f.Blocks[2].List[4] = api.Instr{Op: api.OpPrint, Dst: -1, A: n(1), B: v(-1), P: at(-1), Q: at(-1), N: math.MinInt, Text: "?"}
		}},
		{"what OpLoad does not use", true, func(l []api.Mir, f *api.Mir) {
			f.Blocks[0].List[2].A, f.Blocks[0].List[2].Q, f.Blocks[0].List[2].N = v(-1), at(-1), -1
		}},
		{"what OpGive does not use", true, func(l []api.Mir, f *api.Mir) {
			f.Blocks[2].List[1] = api.Instr{Op: api.OpGive, Dst: wide, A: v(-1), P: at(-1), N: -1}
		}},
		{"types that nobody has", true, func(l []api.Mir, f *api.Mir) { f.Blocks[2].List[0].Type = api.Type{Kind: -5} }},
	}
	for _, k := range []int{0, 16, -1, math.MaxInt, math.MinInt} {
		list = append(list, change{"an operation of another kind", false, func(l []api.Mir, f *api.Mir) { f.Blocks[2].List[5].Op = k }})
	}
	for _, k := range []int{-1, api.MaxWords + 1, math.MaxInt, math.MinInt} {
		list = append(list, change{"N of OpCopy", false, func(l []api.Mir, f *api.Mir) { f.Blocks[1].List[1].N = k }},
			change{"N of OpAlloc", false, func(l []api.Mir, f *api.Mir) { f.Blocks[1].List[4].N = k }})
	}
	for _, op := range []string{"", "eq", "mulhsu", "Add", "addi"} {
		list = append(list, change{"an OpBin's Text", false, func(l []api.Mir, f *api.Mir) { f.Blocks[0].List[1].Text = op }})
	}
	for _, op := range names() {
		list = append(list, change{"an OpBin's Text", true, func(l []api.Mir, f *api.Mir) { f.Blocks[0].List[1].Text = op }})
	}
	holdChanges(t, list)
}

// TestCheckAllOver spoils one instruction of each block, come to or not, and of each function.
func TestCheckAllOver(t *testing.T) {
	for k := range sample() {
		for b := range sample()[k].Blocks {
			holdChanges(t, []change{
				{"an instruction too many", false, func(l []api.Mir, f *api.Mir) { l[k].Blocks[b].List = append(l[k].Blocks[b].List, api.Instr{}) }},
				{"an end", false, func(l []api.Mir, f *api.Mir) { l[k].Blocks[b].Term = api.Term{} }},
			})
		}
	}
}
