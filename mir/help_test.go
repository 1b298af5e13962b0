package mir

import (
	"reflect"
	"testing"

	"ferrule/api"
)

// n is a number as an operand, v a scalar.
func n(number int) api.Operand { return api.Operand{Const: true, N: number} }
func v(scalar int) api.Operand { return api.Operand{N: scalar} }

func on(words int) api.Step                 { return api.Step{Kind: api.StAdd, N: words} }
func times(scalar, size int) api.Step       { return api.Step{Kind: api.StIndex, N: scalar, Size: size} }
func held() api.Step                        { return api.Step{Kind: api.StHeld} }
func at(local int, s ...api.Step) api.Place { return api.Place{Local: local, Steps: s} }

func set(dst int, a api.Operand) api.Instr { return api.Instr{Op: api.OpSet, Dst: dst, A: a} }
func bin(dst int, a api.Operand, op string, b api.Operand) api.Instr {
	return api.Instr{Op: api.OpBin, Dst: dst, A: a, Text: op, B: b}
}
func load(dst int, p api.Place) api.Instr        { return api.Instr{Op: api.OpLoad, Dst: dst, P: p} }
func store(p api.Place, a api.Operand) api.Instr { return api.Instr{Op: api.OpStore, P: p, A: a} }
func move(words int, p, q api.Place) api.Instr {
	return api.Instr{Op: api.OpCopy, N: words, P: p, Q: q}
}
func addr(dst int, p api.Place) api.Instr    { return api.Instr{Op: api.OpAddr, Dst: dst, P: p} }
func alloc(dst, words int) api.Instr         { return api.Instr{Op: api.OpAlloc, Dst: dst, N: words} }
func free(a api.Operand) api.Instr           { return api.Instr{Op: api.OpFree, A: a} }
func drop(x api.Type, p api.Place) api.Instr { return api.Instr{Op: api.OpDrop, Type: x, P: p} }
func give(local int) api.Instr               { return api.Instr{Op: api.OpGive, Dst: local} }
func take(local int) api.Instr               { return api.Instr{Op: api.OpTake, Dst: local} }
func empty(x api.Type, local int) api.Instr  { return api.Instr{Op: api.OpClear, Type: x, Dst: local} }
func show(a api.Operand) api.Instr           { return api.Instr{Op: api.OpPrint, A: a} }
func showFrom0(a api.Operand) api.Instr      { return api.Instr{Op: api.OpPrint, A: a, N: 1} }
func read(dst int) api.Instr                 { return api.Instr{Op: api.OpRead, Dst: dst} }
func calls(dsts []int, name string, args ...api.Operand) api.Instr {
	return api.Instr{Op: api.OpCall, Text: name, Dsts: dsts, Args: args}
}

func jump(to int) api.Term { return api.Term{Kind: api.TeGoto, To: to} }
func branch(a api.Operand, to, otherwise int) api.Term {
	return api.Term{Kind: api.TeIf, A: a, To: to, Else: otherwise}
}
func answer(args ...api.Operand) api.Term { return api.Term{Kind: api.TeReturn, Args: args} }
func fail() api.Term                      { return api.Term{Kind: api.TePanic} }

func block(end api.Term, list ...api.Instr) api.Block { return api.Block{List: list, Term: end} }

// fn is a function with so many params and answers.
func fn(name string, locals []int, params, answers int, blocks ...api.Block) api.Mir {
	return api.Mir{Name: name, Locals: locals, Params: params, Answers: answers, Blocks: blocks}
}

func quiet(f api.Mir) api.Mir {
	f.Quiet = true
	return f
}

// starts is a main of one block.
func starts(locals []int, list ...api.Instr) api.Mir {
	return fn("main", locals, 0, 0, block(answer(), list...))
}

// plenty is more fuel than a test's functions need.
const plenty = 1 << 20

func outcome(kind, code int, print ...int) api.Outcome {
	return api.Outcome{Kind: kind, Code: code, Print: print}
}

func exit(print ...int) api.Outcome   { return outcome(api.OutExit, 0, print...) }
func failed(print ...int) api.Outcome { return outcome(api.OutExit, 101, print...) }
func trapped(print ...int) api.Outcome {
	return outcome(api.OutTrap, 0, print...)
}

func alike(a, b api.Outcome) bool {
	if a.Kind != b.Kind || a.Code != b.Code || len(a.Print) != len(b.Print) {
		return false
	}
	return len(a.Print) == 0 || reflect.DeepEqual(a.Print, b.Print)
}

// comes runs functions, and holds what they come to against what they must.
func comes(t *testing.T, what string, want api.Outcome, items []api.Item, l ...api.Mir) {
	t.Helper()
	if e := Check(l); e != api.OK {
		t.Errorf("%s: Check tells %v", what, e)
	}
	if got, _ := Run(items, l, nil, plenty); !alike(got, want) {
		t.Errorf("%s: %+v, not %+v", what, got, want)
	}
}

func ty(kind int, elem ...api.Type) api.Type { return api.Type{Kind: kind, Elem: elem} }
func boxed(x api.Type) api.Type              { return ty(api.TyBox, x) }
func array(n int, x api.Type) api.Type       { return api.Type{Kind: api.TyArray, N: n, Elem: []api.Type{x}} }
func named(name string) api.Type             { return api.Type{Kind: api.TyNamed, Name: name} }

func structure(name string, fields ...api.Type) api.Item {
	it := api.Item{Kind: api.ItStruct, Name: name}
	for k, f := range fields {
		it.Params = append(it.Params, api.Param{Name: string(rune('a' + k)), Type: f})
	}
	return it
}

func enum(name string, variants ...[]api.Type) api.Item {
	it := api.Item{Kind: api.ItEnum, Name: name}
	for k, types := range variants {
		it.Variants = append(it.Variants, api.Variant{Name: string(rune('A' + k)), Types: types})
	}
	return it
}

func of(list ...api.Type) []api.Type { return list }
