package fold_test

import (
	"slices"
	"strconv"
	"strings"
	"testing"

	"ferrule/api"
	"ferrule/borrow"
	"ferrule/build"
	"ferrule/drops"
	"ferrule/fold"
	"ferrule/mir"
	"ferrule/parse"
	"ferrule/typeck"
)

// plenty is fuel enough for every run of these tests that comes to an end.
const plenty = 4_000_000

// n is a number as an operand, v a scalar.
func n(number int) api.Operand { return api.Operand{Const: true, N: number} }
func v(scalar int) api.Operand { return api.Operand{N: scalar} }

func step(words int) api.Step               { return api.Step{Kind: api.StAdd, N: words} }
func times(scalar, size int) api.Step       { return api.Step{Kind: api.StIndex, N: scalar, Size: size} }
func held() api.Step                        { return api.Step{Kind: api.StHeld} }
func at(local int, s ...api.Step) api.Place { return api.Place{Local: local, Steps: s} }

func set(dst int, a api.Operand) api.Instr { return api.Instr{Op: api.OpSet, Dst: dst, A: a} }
func bin(dst int, a api.Operand, op string, b api.Operand) api.Instr {
	return api.Instr{Op: api.OpBin, Dst: dst, A: a, Text: op, B: b}
}
func load(dst int, p api.Place) api.Instr        { return api.Instr{Op: api.OpLoad, Dst: dst, P: p} }
func store(p api.Place, a api.Operand) api.Instr { return api.Instr{Op: api.OpStore, P: p, A: a} }
func move(words int, p, q api.Place) api.Instr {
	return api.Instr{Op: api.OpCopy, N: words, P: p, Q: q}
}
func addr(dst int, p api.Place) api.Instr    { return api.Instr{Op: api.OpAddr, Dst: dst, P: p} }
func alloc(dst, words int) api.Instr         { return api.Instr{Op: api.OpAlloc, Dst: dst, N: words} }
func free(a api.Operand) api.Instr           { return api.Instr{Op: api.OpFree, A: a} }
func drop(x api.Type, p api.Place) api.Instr { return api.Instr{Op: api.OpDrop, Type: x, P: p} }
func give(local int) api.Instr               { return api.Instr{Op: api.OpGive, Dst: local} }
func take(local int) api.Instr               { return api.Instr{Op: api.OpTake, Dst: local} }
func empty(x api.Type, local int) api.Instr  { return api.Instr{Op: api.OpClear, Type: x, Dst: local} }
func show(a api.Operand) api.Instr           { return api.Instr{Op: api.OpPrint, A: a} }
func read(dst int) api.Instr                 { return api.Instr{Op: api.OpRead, Dst: dst} }
func calls(dsts []int, name string, args ...api.Operand) api.Instr {
	return api.Instr{Op: api.OpCall, Text: name, Dsts: dsts, Args: args}
}

func jump(to int) api.Term { return api.Term{Kind: api.TeGoto, To: to} }
func branch(a api.Operand, to, otherwise int) api.Term {
	return api.Term{Kind: api.TeIf, A: a, To: to, Else: otherwise}
}
func answer(args ...api.Operand) api.Term { return api.Term{Kind: api.TeReturn, Args: args} }
func fail() api.Term                      { return api.Term{Kind: api.TePanic} }

func block(end api.Term, list ...api.Instr) api.Block { return api.Block{List: list, Term: end} }

// fn is a function with so many params and answers.
func fn(name string, locals []int, params, answers int, blocks ...api.Block) api.Mir {
	return api.Mir{Name: name, Locals: locals, Params: params, Answers: answers, Blocks: blocks}
}

func quiet(f api.Mir) api.Mir {
	f.Quiet = true
	return f
}

// starts is a main of one block.
func starts(locals []int, list ...api.Instr) api.Mir {
	return fn("main", locals, 0, 0, block(answer(), list...))
}

func ty(kind int, elem ...api.Type) api.Type { return api.Type{Kind: kind, Elem: elem} }
func boxed(x api.Type) api.Type              { return ty(api.TyBox, x) }

// u8 is a type that owns nothing.
var u8 = ty(api.TyU8)

// told is a function as a text: a local by v and its number, a number by itself; ^ is StHeld, + StAdd, [] StIndex; / stands between blocks.
func told(f api.Mir) string {
	var blocks []string
	for _, b := range f.Blocks {
		var list []string
		for _, in := range b.List {
			list = append(list, toldInstr(in))
		}
		blocks = append(blocks, strings.Join(append(list, toldEnd(b.Term)), "; "))
	}
	return strings.Join(blocks, " / ")
}

func toldOperand(o api.Operand) string {
	if o.Const {
		return strconv.Itoa(o.N)
	}
	return "v" + strconv.Itoa(o.N)
}

func toldOperands(list []api.Operand) string {
	var out []string
	for _, o := range list {
		out = append(out, toldOperand(o))
	}
	return strings.Join(out, ",")
}

func toldPlace(p api.Place) string {
	out := "v" + strconv.Itoa(p.Local)
	for _, s := range p.Steps {
		switch s.Kind {
		case api.StAdd:
			out += "+" + strconv.Itoa(s.N)
		case api.StIndex:
			out += "[v" + strconv.Itoa(s.N) + "*" + strconv.Itoa(s.Size) + "]"
		case api.StHeld:
			out += "^"
		}
	}
	return out
}

func toldInstr(in api.Instr) string {
	dst, many := "v"+strconv.Itoa(in.Dst), " "+strconv.Itoa(in.N)
	switch in.Op {
	case api.OpSet:
		return dst + "=" + toldOperand(in.A)
	case api.OpBin:
		return dst + "=" + toldOperand(in.A) + " " + in.Text + " " + toldOperand(in.B)
	case api.OpLoad:
		return dst + "=load " + toldPlace(in.P)
	case api.OpStore:
		return "store " + toldPlace(in.P) + "=" + toldOperand(in.A)
	case api.OpCopy:
		return "copy" + many + " " + toldPlace(in.P) + "=" + toldPlace(in.Q)
	case api.OpAddr:
		return dst + "=addr " + toldPlace(in.P)
	case api.OpAlloc:
		return dst + "=alloc" + many
	case api.OpFree:
		return "free " + toldOperand(in.A)
	case api.OpDrop:
		return "drop " + toldPlace(in.P)
	case api.OpGive:
		return "give " + dst
	case api.OpTake:
		return "take " + dst
	case api.OpClear:
		return "clear " + dst
	case api.OpPrint:
		return "print" + strings.TrimSuffix(many, " 0") + " " + toldOperand(in.A)
	case api.OpRead:
		return dst + "=read"
	}
	var dsts []string
	for _, dst := range in.Dsts {
		dsts = append(dsts, "v"+strconv.Itoa(dst))
	}
	return strings.Join(dsts, ",") + "=" + in.Text + "(" + toldOperands(in.Args) + ")"
}

func toldEnd(t api.Term) string {
	switch t.Kind {
	case api.TeGoto:
		return "goto " + strconv.Itoa(t.To)
	case api.TeIf:
		return "if " + toldOperand(t.A) + " " + strconv.Itoa(t.To) + " " + strconv.Itoa(t.Else)
	case api.TeReturn:
		return strings.TrimSpace("return " + toldOperands(t.Args))
	}
	return "panic"
}

// typed is a program of a text, behind typeck.
func typed(t *testing.T, text string) []api.Item {
	t.Helper()
	l, at, e := parse.Parse(text)
	if e != api.OK {
		t.Fatalf("no program, %d at %d: %.50s", int(e), at, text[max(0, at-20):])
	}
	told, at, e := typeck.Check(l)
	if e != api.OK {
		t.Fatalf("not typed, %d at %d: %.50s", int(e), at, text[max(0, at-20):])
	}
	return told
}

// elaborated is a typed program's functions, behind drops.
func elaborated(t *testing.T, items []api.Item) []api.Mir {
	t.Helper()
	list, e := build.Build(items)
	if e != api.OK {
		t.Fatal("not built")
	}
	out, e := drops.Elaborate(items, list)
	if e != api.OK {
		t.Fatal("not elaborated")
	}
	return out
}

// taken is a program that nothing is against, and its functions behind drops.
func taken(t *testing.T, text string) ([]api.Item, []api.Mir) {
	t.Helper()
	l := typed(t, text)
	if at, e := borrow.Check(l); e != api.OK {
		t.Fatalf("not taken, %d at %d: %.50s", int(e), at, text[max(0, at-20):])
	}
	return l, elaborated(t, l)
}

// folded is what is told of functions that nothing is against: P15.2 and P15.4 hold of it.
func folded(t *testing.T, l []api.Mir) []api.Mir {
	t.Helper()
	out, e := fold.Fold(l)
	if e != api.OK {
		t.Fatalf("not folded: %d", int(e))
	}
	if list := faults(l, out); len(list) > 0 {
		for k := range l {
			t.Logf("%s: %s\n  is told as %s", l[k].Name, told(l[k]), told(out[k]))
		}
		t.Fatal(strings.Join(list, "\n"))
	}
	wantAgain(t, out)
	return out
}

// wantAgain is P15.4, but for the steps of runs: what is told again is as much.
func wantAgain(t *testing.T, out []api.Mir) {
	t.Helper()
	again, e := fold.Fold(out)
	if e != api.OK || len(again) != len(out) {
		t.Fatalf("again: %d, %d functions", int(e), len(again))
	}
	for k := range out {
		if !slices.Equal(amounts(out[k]), amounts(again[k])) {
			t.Errorf("%s is told again as %s", told(out[k]), told(again[k]))
		}
	}
}

// amounts tells, of a function, how many instructions each block has, and the kind of its end, in no order of blocks.
func amounts(f api.Mir) []int {
	var all []int
	for _, b := range f.Blocks {
		all = append(all, len(b.List)*10+b.Term.Kind)
	}
	slices.Sort(all)
	return all
}

// alike tells whether two outcomes are.
func alike(a, b api.Outcome) bool {
	return a.Kind == b.Kind && a.Code == b.Code && slices.Equal(a.Print, b.Print)
}

// begins tells whether one list is the beginning of another one.
func begins(a, b []int) bool { return len(a) <= len(b) && slices.Equal(a, b[:len(a)]) }

// runs holds what is told against what went in, in runs with an input (P15.3, and what P15.4 says of steps): with fuel enough, if that is so, and with each of some fuels.
func runs(t *testing.T, items []api.Item, l, out []api.Mir, input []int, fuel int, fuels func(steps int) []int) api.Outcome {
	t.Helper()
	want, before := mir.Run(items, l, input, fuel)
	got, many := mir.Run(items, out, input, fuel)
	ended := want.Kind != api.OutFuel
	if ended && (!alike(got, want) || many > before) {
		t.Fatalf("%v by %d steps, not %v by %d", got, many, want, before)
	}
	again, _ := fold.Fold(out)
	if twice, steps := mir.Run(items, again, input, fuel); !alike(twice, got) || steps != many {
		t.Fatalf("folded again: %v by %d steps, not %v by %d", twice, steps, got, many)
	}
	for _, less := range append(fuels(before), fuel) {
		first, _ := mir.Run(items, l, input, less)
		second, _ := mir.Run(items, out, input, less)
		if second.Kind == api.OutFuel && !begins(first.Print, second.Print) {
			t.Fatalf("with fuel %d: %v, before %v", less, second, first)
		}
		if ended && !begins(second.Print, want.Print) || second.Kind != api.OutFuel && !begins(first.Print, second.Print) {
			t.Fatalf("with fuel %d: %v, before %v, but then %v", less, second, first, want)
		}
	}
	return got
}

// every is each fuel from none to enough.
func every(steps int) []int {
	var all []int
	for fuel := -1; fuel <= steps; fuel++ {
		all = append(all, fuel)
	}
	return all
}

// some are fuels from none to enough: all of them if they are few.
func some(steps int) []int {
	if steps < 40 {
		return every(steps)
	}
	var all []int
	for part := range 10 {
		all = append(all, steps*part/10)
	}
	return append(all, steps-2, steps-1, steps)
}

// comes asks what functions come to, as they are and folded.
func comes(t *testing.T, what string, kind, code int, print []int, input []int, l ...api.Mir) {
	t.Helper()
	got := runs(t, nil, l, folded(t, l), input, plenty, some)
	if !alike(got, api.Outcome{Kind: kind, Code: code, Print: print}) {
		t.Errorf("%s: %v, not %d %d %v", what, got, kind, code, print)
	}
}

// isTold asks what a main is told as.
func isTold(t *testing.T, what string, f api.Mir, want string, others ...api.Mir) {
	t.Helper()
	l := append([]api.Mir{f}, others...)
	out := folded(t, l)
	if got := told(out[0]); got != want {
		t.Errorf("%s: %s is told as %s, not as %s", what, told(f), got, want)
	}
	if f.Name == "main" {
		for _, input := range [][]int{nil, {1}, {1, 1, 1, 1}, {2, 0, 7, 0, 1}} {
			runs(t, nil, l, out, input, 300, every)
		}
	}
}
