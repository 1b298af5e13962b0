package drops_test

import (
	"slices"
	"strings"
	"testing"

	"ferrule/api"
	"ferrule/borrow"
	"ferrule/build"
	"ferrule/drops"
	"ferrule/mir"
	"ferrule/model"
	"ferrule/parse"
	"ferrule/typeck"
)

// plenty is fuel enough for every run of these tests that comes to an end.
const plenty = 4_000_000

// n is a number as an operand, v a scalar.
func n(number int) api.Operand { return api.Operand{Const: true, N: number} }
func v(scalar int) api.Operand { return api.Operand{N: scalar} }

func step(words int) api.Step               { return api.Step{Kind: api.StAdd, N: words} }
func times(scalar, size int) api.Step       { return api.Step{Kind: api.StIndex, N: scalar, Size: size} }
func held() api.Step                        { return api.Step{Kind: api.StHeld} }
func at(local int, s ...api.Step) api.Place { return api.Place{Local: local, Steps: s} }

func set(dst int, a api.Operand) api.Instr { return api.Instr{Op: api.OpSet, Dst: dst, A: a} }
func bin(dst int, a api.Operand, op string, b api.Operand) api.Instr {
	return api.Instr{Op: api.OpBin, Dst: dst, A: a, Text: op, B: b}
}
func load(dst int, p api.Place) api.Instr        { return api.Instr{Op: api.OpLoad, Dst: dst, P: p} }
func store(p api.Place, a api.Operand) api.Instr { return api.Instr{Op: api.OpStore, P: p, A: a} }
func move(words int, p, q api.Place) api.Instr {
	return api.Instr{Op: api.OpCopy, N: words, P: p, Q: q}
}
func addr(dst int, p api.Place) api.Instr    { return api.Instr{Op: api.OpAddr, Dst: dst, P: p} }
func alloc(dst, words int) api.Instr         { return api.Instr{Op: api.OpAlloc, Dst: dst, N: words} }
func free(a api.Operand) api.Instr           { return api.Instr{Op: api.OpFree, A: a} }
func drop(x api.Type, p api.Place) api.Instr { return api.Instr{Op: api.OpDrop, Type: x, P: p} }
func give(local int) api.Instr               { return api.Instr{Op: api.OpGive, Dst: local} }
func take(local int) api.Instr               { return api.Instr{Op: api.OpTake, Dst: local} }
func empty(x api.Type, local int) api.Instr  { return api.Instr{Op: api.OpClear, Type: x, Dst: local} }
func show(a api.Operand) api.Instr           { return api.Instr{Op: api.OpPrint, A: a} }
func read(dst int) api.Instr                 { return api.Instr{Op: api.OpRead, Dst: dst} }
func calls(dsts []int, name string, args ...api.Operand) api.Instr {
	return api.Instr{Op: api.OpCall, Text: name, Dsts: dsts, Args: args}
}

func jump(to int) api.Term { return api.Term{Kind: api.TeGoto, To: to} }
func branch(a api.Operand, to, otherwise int) api.Term {
	return api.Term{Kind: api.TeIf, A: a, To: to, Else: otherwise}
}
func answer(args ...api.Operand) api.Term { return api.Term{Kind: api.TeReturn, Args: args} }
func fail() api.Term                      { return api.Term{Kind: api.TePanic} }

func block(end api.Term, list ...api.Instr) api.Block { return api.Block{List: list, Term: end} }

// fn is a function with so many params and answers.
func fn(name string, locals []int, params, answers int, blocks ...api.Block) api.Mir {
	return api.Mir{Name: name, Locals: locals, Params: params, Answers: answers, Blocks: blocks}
}

func quiet(f api.Mir) api.Mir {
	f.Quiet = true
	return f
}

// starts is a main of one block.
func starts(locals []int, list ...api.Instr) api.Mir {
	return fn("main", locals, 0, 0, block(answer(), list...))
}

func ty(kind int, elem ...api.Type) api.Type { return api.Type{Kind: kind, Elem: elem} }
func boxed(x api.Type) api.Type              { return ty(api.TyBox, x) }
func array(n int, x api.Type) api.Type       { return api.Type{Kind: api.TyArray, N: n, Elem: []api.Type{x}} }
func named(name string) api.Type             { return api.Type{Kind: api.TyNamed, Name: name} }
func of(list ...api.Type) []api.Type         { return list }

// u8 is a type that owns nothing.
var u8 = ty(api.TyU8)

func structure(name string, fields ...api.Type) api.Item {
	it := api.Item{Kind: api.ItStruct, Name: name}
	for k, f := range fields {
		it.Params = append(it.Params, api.Param{Name: string(rune('a' + k)), Type: f})
	}
	return it
}

func enum(name string, variants ...[]api.Type) api.Item {
	it := api.Item{Kind: api.ItEnum, Name: name}
	for k, types := range variants {
		it.Variants = append(it.Variants, api.Variant{Name: string(rune('A' + k)), Types: types})
	}
	return it
}

// items are what the bodies of the tests speak of.
const items = ` struct P { a: i32, b: u8 } struct Q { p: P, k: Box<i32>, l: [i32; 3] } struct N { b: [Box<i32>; 2] } struct OB { b: Box<i32> } struct R { a: Box<Q>, b: [Box<E>; 3], c: Box<Box<i32>> }
enum E { N, A(i32), B(Box<i32>, i32), C(Box<i32>, Box<i32>) } enum L { N, C(Box<L>) } enum T { Leaf, Two(Box<T>, i32, Box<T>), All([Box<T>; 3]), In(Box<Box<T>>, N) } enum X { N, Q(Q), E([E; 2], ()), R(R) }
fn yes() -> bool { true } fn no() -> bool { false } fn box(n: i32) -> Box<i32> { Box::new(n) } fn drop(b: Box<i32>) {} fn same(b: Box<i32>) -> Box<i32> { b } fn zero() -> i32 { 0 } fn q() -> Q { Q { p: P { a: 1, b: 2 }, k: box(3), l: [4, 5, 6] } } fn eatQ(q: Q) -> i32 { *q.k + q.l[2] } fn r() -> R { R { a: Box::new(q()), b: [Box::new(E::C(box(1), box(2))), Box::new(E::N), Box::new(E::B(box(3), 4))], c: Box::new(box(5)) } }
fn tree(n: i32) -> T { if n < 1 { T::Leaf } else if n % 3 == 0 { T::All([Box::new(tree(n - 1)), Box::new(T::Leaf), Box::new(tree(n - 2))]) } else if n % 3 == 1 { T::Two(Box::new(tree(n - 1)), n, Box::new(tree(n - 3))) } else { T::In(Box::new(Box::new(tree(n - 2))), N { b: [box(n), box(n)] }) } }
`

// fill fills the blocks of class 0 with Boxes, and prints 1000 for each.
const fill = " let mut filled = L::N; loop { filled = L::C(Box::new(filled)); print(1000); }"

// inMain is a program whose main has a body.
func inMain(body string) string { return "fn main() { " + body + " }" + items }

// typed is a program of a text, behind typeck.
func typed(t *testing.T, text string) []api.Item {
	t.Helper()
	l, at, e := parse.Parse(text)
	if e != api.OK {
		t.Fatalf("no program, %d at %d: %.50s", int(e), at, text[max(0, at-20):])
	}
	told, at, e := typeck.Check(l)
	if e != api.OK {
		t.Fatalf("not typed, %d at %d: %.50s", int(e), at, text[max(0, at-20):])
	}
	return told
}

// taken is a program that nothing is against, and its functions in the middle form.
func taken(t *testing.T, text string) ([]api.Item, []api.Mir) {
	t.Helper()
	l := typed(t, text)
	if at, e := borrow.Check(l); e != api.OK {
		t.Fatalf("not taken, %d at %d: %.50s", int(e), at, text[max(0, at-20):])
	}
	list, e := build.Build(l)
	if e != api.OK {
		t.Fatal("not built")
	}
	return l, list
}

// asks tells whether an operation is one of those that are elaborated.
func asks(op int) bool { return op >= api.OpDrop && op <= api.OpClear }

// elaborated is what is told of functions that nothing is against: it has all that P14.1 says of its form.
func elaborated(t *testing.T, items []api.Item, l []api.Mir) []api.Mir {
	t.Helper()
	out, e := drops.Elaborate(items, l)
	if e != api.OK {
		t.Fatalf("not elaborated: %d", int(e))
	}
	if mir.Check(out) != api.OK {
		t.Fatal("mir refuses what was told")
	}
	if len(out) < len(l) {
		t.Fatal("too few functions")
	}
	for k, f := range out {
		if k >= len(l) && (!f.Quiet || !strings.HasPrefix(f.Name, "drop ")) {
			t.Fatalf("%q is told, too: quiet %t", f.Name, f.Quiet)
		}
		if k < len(l) && (f.Name != l[k].Name || f.Params != l[k].Params || f.Answers != l[k].Answers || f.Quiet != l[k].Quiet || len(f.Locals) < len(l[k].Locals) || !slices.Equal(f.Locals[:len(l[k].Locals)], l[k].Locals)) {
			t.Fatalf("%s: %s, locals %v, %d params, %d answers, quiet %t", l[k].Name, f.Name, f.Locals, f.Params, f.Answers, f.Quiet)
		}
		for _, b := range f.Blocks {
			if slices.ContainsFunc(b.List, func(in api.Instr) bool { return asks(in.Op) }) {
				t.Fatalf("%s: not all is elaborated", f.Name)
			}
		}
	}
	return out
}

// alike tells whether two outcomes are.
func alike(a, b api.Outcome) bool {
	return a.Kind == b.Kind && a.Code == b.Code && slices.Equal(a.Print, b.Print)
}

// begins tells whether one list is the beginning of another one.
func begins(a, b []int) bool { return len(a) <= len(b) && slices.Equal(a, b[:len(a)]) }

// wantAgree is P14.2 of functions and an input: both runs come to the same; with less fuel each prints a beginning of it.
func wantAgree(t *testing.T, items []api.Item, l []api.Mir, input []int) api.Outcome {
	t.Helper()
	out := elaborated(t, items, l)
	want, before := mir.Run(items, l, input, plenty)
	got, many := mir.Run(items, out, input, plenty)
	if want.Kind == api.OutFuel || !alike(got, want) {
		t.Fatalf("%v, not %v", got, want)
	}
	for _, part := range []int{0, 1, 2, 3, 4} {
		first, _ := mir.Run(items, out, input, many*part/5)
		second, _ := mir.Run(items, l, input, before*part/5)
		if !begins(first.Print, want.Print) || !begins(second.Print, want.Print) || first.Kind != api.OutFuel || second.Kind != api.OutFuel {
			t.Fatalf("with less fuel: %v, %v, but then %v", first, second, want)
		}
	}
	return got
}

// wantRun asks what a program comes to, as a tree, in the middle form, and elaborated.
func wantRun(t *testing.T, text string, input []int, kind, code int, print ...int) {
	t.Helper()
	l, list := taken(t, text)
	got := wantAgree(t, l, list, input)
	if want, _ := model.Run(l, input, plenty); !alike(got, want) {
		t.Errorf("%.400s: %v, but the model %v", text, got, want)
	}
	if want := (api.Outcome{Kind: kind, Code: code, Print: print}); !alike(got, want) {
		t.Errorf("%.400s: %v, not %v", strings.TrimSuffix(text, items), got, want)
	}
}

// wantLive asks how many Boxes of class 0 are live behind a body: as many fewer come in, till there is no room.
func wantLive(t *testing.T, body string, live int, print ...int) {
	t.Helper()
	for range 64 - live {
		print = append(print, 1000)
	}
	wantRun(t, inMain(body+fill), nil, api.OutMemory, 0, print...)
}

// comes asks what functions come to, as they are and elaborated.
func comes(t *testing.T, what string, kind, code int, print []int, items []api.Item, l ...api.Mir) {
	t.Helper()
	if got := wantAgree(t, items, l, nil); !alike(got, api.Outcome{Kind: kind, Code: code, Print: print}) {
		t.Errorf("%s: %v, not %d %d %v", what, got, kind, code, print)
	}
}
