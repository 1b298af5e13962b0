package build_test

import (
	"math"
	"slices"
	"strings"
	"testing"

	"ferrule/api"
	"ferrule/borrow"
	"ferrule/build"
	"ferrule/mir"
	"ferrule/model"
	"ferrule/parse"
	"ferrule/typeck"
)

// plenty is fuel enough for every run of these tests that comes to an end.
const plenty = 2_000_000

// perStep is how many steps of the middle form a step of the model needs at most (P13.3).
const perStep = 40 + 10*api.MaxWords

// items are what the bodies of the tests speak of.
const items = ` struct P { a: i32, b: u8 } struct Q { p: P, k: Box<i32>, l: [i32; 3] } struct N { b: [Box<i32>; 2] } struct U {} struct O { x: u16 } struct OB { b: Box<i32> }
enum E { N, A(i32), B(Box<i32>, i32), C(Box<i32>, Box<i32>) } enum L { N, C(Box<L>) } enum T { A, B, C } enum X { N, P(P, [i32; 2]), Q(Q), U((), U) }
const K: i32 = 7; const LEAST: i8 = -128;
fn yes() -> bool { true } fn no() -> bool { false } fn box(n: i32) -> Box<i32> { Box::new(n) } fn say(n: i32) -> i32 { print(n); n } fn ask(n: i32, b: bool) -> bool { print(n); b } fn drop(b: Box<i32>) {} fn same(b: Box<i32>) -> Box<i32> { b } fn look(b: &Box<i32>) -> i32 { **b } fn zero() -> i32 { 0 } fn point(a: i32, b: u8) -> P { P { a: a, b: b } }
fn q() -> Q { Q { p: P { a: 1, b: 2 }, k: box(3), l: [4, 5, 6] } } fn eatQ(q: Q) -> i32 { *q.k + q.l[2] } fn show(p: &P) { print(p.a); print(p.b); } fn showQ(q: &Q) { show(&q.p); print(*q.k); print(q.l[0] * 100 + q.l[1] * 10 + q.l[2]); } fn set(x: &mut i32, n: i32) { *x = n; } fn setP(p: &mut P, n: i32) -> P { replace(p, P { a: n, b: 9 }) } fn panics() -> i32 { zero() / zero() } fn two(a: i32, b: i32) -> i32 { a * 10 + b } fn three(a: i32, b: i32, c: i32) -> i32 { a * 100 + b * 10 + c } fn give3(b: Box<i32>, n: i32, m: i32) -> i32 { three(*b, n, m) } fn show2(a: P, b: P) { show(&a); show(&b); }
`

// inMain is a program whose main has a body.
func inMain(body string) string { return "fn main() { " + body + " }" + items }

// typed is a program of a text, behind typeck.
func typed(t *testing.T, text string) []api.Item {
	t.Helper()
	l, at, e := parse.Parse(text)
	if e != api.OK {
		t.Fatalf("no program, %d at %d: %.50s", int(e), at, text[max(0, at-20):])
	}
	told, at, e := typeck.Check(l)
	if e != api.OK {
		t.Fatalf("not typed, %d at %d: %.50s", int(e), at, text[max(0, at-20):])
	}
	return told
}

// taken is a program that nothing is against.
func taken(t *testing.T, text string) []api.Item {
	t.Helper()
	l := typed(t, text)
	if at, e := borrow.Check(l); e != api.OK {
		t.Fatalf("not taken, %d at %d: %.50s", int(e), at, text[max(0, at-20):])
	}
	return l
}

// built is what is told of a program that typeck tells: it has all that P13.1 says of its form.
func built(t *testing.T, l []api.Item) []api.Mir {
	t.Helper()
	list, e := build.Build(l)
	if e != api.OK {
		t.Fatalf("not built: %d", int(e))
	}
	wantForm(t, l, list)
	return list
}

// alike tells whether two outcomes are.
func alike(a, b api.Outcome) bool {
	return a.Kind == b.Kind && a.Code == b.Code && slices.Equal(a.Print, b.Print)
}

// begins tells whether one list is the beginning of another one.
func begins(a, b []int) bool { return len(a) <= len(b) && slices.Equal(a, b[:len(a)]) }

// wantAgree is P13.2 and P13.3 of a program and an input: both runs come to the same; with less fuel they print beginnings of it.
func wantAgree(t *testing.T, l []api.Item, list []api.Mir, input []int) api.Outcome {
	t.Helper()
	want, steps := model.Run(l, input, plenty)
	got, many := mir.Run(l, list, input, plenty)
	if want.Kind == api.OutStuck || !alike(got, want) {
		t.Fatalf("%v, not %v", got, want)
	}
	if want.Kind == api.OutFuel {
		t.Fatal("it has no end")
	}
	if many > perStep*steps {
		t.Fatalf("%d steps of the middle form for %d of the model", many, steps)
	}
	for _, fuel := range []int{math.MinInt, 0, 1, many / 3, many / 2, many - 1} {
		less, _ := mir.Run(l, list, input, fuel)
		if less.Kind != api.OutFuel || !begins(less.Print, want.Print) {
			t.Fatalf("with the fuel %d of %d: %v, but then %v", fuel, many, less, want)
		}
	}
	return want
}

// wantRun asks what a program comes to, in both forms.
func wantRun(t *testing.T, text string, input []int, kind, code int, print ...int) {
	t.Helper()
	l := taken(t, text)
	if got := wantAgree(t, l, built(t, l), input); !alike(got, api.Outcome{Kind: kind, Code: code, Print: print}) {
		t.Errorf("%.400s: %v, not %d %d %v", strings.TrimSuffix(text, items), got, kind, code, print)
	}
}

// wantPrint asks of a body of main, that comes to its end, what is printed.
func wantPrint(t *testing.T, body string, print ...int) {
	t.Helper()
	wantRun(t, inMain(body), nil, api.OutExit, 0, print...)
}

// wantPanic asks of a body of main that panics.
func wantPanic(t *testing.T, body string, print ...int) {
	t.Helper()
	wantRun(t, inMain(body), nil, api.OutExit, 101, print...)
}

// fill fills the blocks of class 0 with Boxes, and prints 1000 for each.
const fill = " let mut filled = L::N; loop { filled = L::C(Box::new(filled)); print(1000); }"

// wantLive asks how many Boxes of class 0 are live behind a body: as many fewer come in, till there is no room.
func wantLive(t *testing.T, body string, live int, print ...int) {
	t.Helper()
	for range 64 - live {
		print = append(print, 1000)
	}
	wantRun(t, inMain(body+fill), nil, api.OutMemory, 0, print...)
}

// wordsOf tells a type's words as the chapter does, of what the tests' programs have.
func wordsOf(t *testing.T, l []api.Item, typ api.Type) int {
	t.Helper()
	switch typ.Kind {
	case api.TyUnit:
		return 0
	case api.TyArray:
		return typ.N * wordsOf(t, l, typ.Elem[0])
	case api.TyNamed:
	default:
		return 1
	}
	for _, it := range l {
		if it.Name != typ.Name {
			continue
		}
		n := 0
		for _, f := range it.Params {
			n += wordsOf(t, l, f.Type)
		}
		for _, v := range it.Variants {
			one := 0
			for _, part := range v.Types {
				one += wordsOf(t, l, part)
			}
			n = max(n, one)
		}
		if it.Kind == api.ItEnum {
			n++
		}
		return n
	}
	t.Fatal("no type", typ.Name)
	return 0
}

// wantForm is what P13.1 says of the functions that are told.
func wantForm(t *testing.T, l []api.Item, list []api.Mir) {
	t.Helper()
	if e := mir.Check(list); e != api.OK {
		t.Fatal("mir refuses what was told")
	}
	at := 0
	for _, it := range l {
		if it.Kind != api.ItFunc {
			continue
		}
		if at >= len(list) {
			t.Fatal("too few functions")
		}
		f := list[at]
		at++
		if f.Name != it.Name || f.Quiet || f.Params != len(it.Params) || f.Answers != wordsOf(t, l, it.Type) {
			t.Fatalf("%s: %s, %t, %d params, %d answers", it.Name, f.Name, f.Quiet, f.Params, f.Answers)
		}
		for k, p := range it.Params {
			if f.Locals[k] != wordsOf(t, l, p.Type) {
				t.Fatalf("%s: param %d has %d words", it.Name, k, f.Locals[k])
			}
		}
	}
	if at != len(list) {
		t.Fatal("too many functions")
	}
}
