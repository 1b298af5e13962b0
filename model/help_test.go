package model

import (
	"math"
	"slices"
	"strings"
	"testing"

	"ferrule/api"
	"ferrule/borrow"
	"ferrule/parse"
	"ferrule/typeck"
)

// plenty is fuel enough for every run of these tests that comes to an end.
const plenty = 1_000_000

// items are what the bodies of the tests speak of. A Box of L has a block of class 0, of M1 to M3 of class 1 to 3.
const items = ` struct P { a: i32, b: u8 } struct Q { p: P, k: Box<i32>, l: [i32; 3] } struct N { b: [Box<i32>; 2] } struct U {}
enum E { N, A(i32), B(Box<i32>, i32), C(Box<i32>, Box<i32>) } enum L { N, C(Box<L>) } enum M1 { N, C([i32; 3], Box<M1>) } enum M2 { N, C([i32; 15], Box<M2>) } enum M3 { N, C([i32; 63], Box<M3>) }
const K: i32 = 7; const LEAST: i8 = -128;
fn yes() -> bool { true } fn no() -> bool { false } fn box(n: i32) -> Box<i32> { Box::new(n) } fn say(n: i32) -> i32 { print(n); n } fn ask(n: i32, b: bool) -> bool { print(n); b } fn drop(b: Box<i32>) {} fn same(b: Box<i32>) -> Box<i32> { b } fn look(b: &Box<i32>) -> i32 { **b } fn zero() -> i32 { 0 }
fn q() -> Q { Q { p: P { a: 1, b: 2 }, k: box(3), l: [4, 5, 6] } } fn fresh() -> Q { q() } fn panics() -> i32 { zero() / zero() }
`

// inMain is a program whose main has a body.
func inMain(body string) string { return "fn main() { " + body + " }" + items }

// typed is a program of a text, behind typeck.
func typed(t *testing.T, text string) []api.Item {
	t.Helper()
	l, at, e := parse.Parse(text)
	if e != api.OK {
		t.Fatalf("no program, %d at %d: %.50s", int(e), at, text[max(0, at-20):])
	}
	told, at, e := typeck.Check(l)
	if e != api.OK {
		t.Fatalf("not typed, %d at %d: %.50s", int(e), at, text[max(0, at-20):])
	}
	return told
}

// taken is a program that nothing is against.
func taken(t *testing.T, text string) []api.Item {
	t.Helper()
	l := typed(t, text)
	if at, e := borrow.Check(l); e != api.OK {
		t.Fatalf("not taken, %d at %d: %.50s", int(e), at, text[max(0, at-20):])
	}
	return l
}

// result is all that a run tells.
type result struct {
	kind, code, steps int
	print             []int
}

func (a result) same(b result) bool {
	return a.kind == b.kind && a.code == b.code && a.steps == b.steps && slices.Equal(a.print, b.print)
}

// outcome runs a program, and asks for what holds of each run.
func outcome(t *testing.T, l []api.Item, input []int, fuel int) result {
	t.Helper()
	given := slices.Clone(input)
	o, steps := Run(l, input, fuel)
	if !slices.Equal(given, input) {
		t.Fatal("the input was changed")
	}
	if steps < 0 || steps > max(0, fuel) || o.Kind == api.OutFuel && steps != max(0, fuel) {
		t.Fatalf("%d steps with the fuel %d, outcome %d", steps, fuel, o.Kind)
	}
	if !slices.Contains([]int{api.OutFuel, api.OutExit, api.OutDepth, api.OutMemory, api.OutStuck}, o.Kind) || o.Code != 0 && (o.Kind != api.OutExit || o.Code != 101) {
		t.Fatalf("the outcome %d with the code %d", o.Kind, o.Code)
	}
	return result{o.Kind, o.Code, steps, o.Print}
}

// wantFuel is P10.2 of one run with great fuel: with less it comes to the same, or to the beginning of it.
func wantFuel(t *testing.T, l []api.Item, input []int, whole result, fuels ...int) {
	t.Helper()
	for _, fuel := range fuels {
		got := outcome(t, l, input, fuel)
		if fuel >= whole.steps && whole.kind != api.OutFuel {
			if !got.same(whole) {
				t.Fatalf("with the fuel %d: %v, not %v", fuel, got, whole)
			}
			continue
		}
		if got.kind != api.OutFuel || len(got.print) > len(whole.print) || !slices.Equal(got.print, whole.print[:len(got.print)]) {
			t.Fatalf("with the fuel %d: %v, but with plenty: %v", fuel, got, whole)
		}
	}
}

// fuelsFor are those that are tried beside a run: all of a short one, and the edges.
func fuelsFor(whole result) []int {
	fuels := []int{math.MinInt, -1, 0, 1, whole.steps / 2, whole.steps - 1, whole.steps}
	for fuel := range min(whole.steps, 200) {
		fuels = append(fuels, fuel)
	}
	if whole.kind != api.OutFuel {
		fuels = append(fuels, whole.steps+1, math.MaxInt)
	}
	return fuels
}

// wantRun asks what a program's run comes to, with plenty of fuel and with less, once and once more.
func wantRun(t *testing.T, text string, input []int, kind, code int, print ...int) result {
	t.Helper()
	return wantItems(t, taken(t, text), text, input, kind, code, print...)
}

func wantItems(t *testing.T, l []api.Item, text string, input []int, kind, code int, print ...int) result {
	t.Helper()
	got := outcome(t, l, input, plenty)
	if got.kind != kind || got.code != code || !slices.Equal(got.print, print) {
		t.Errorf("%.400s: %d %d %v, not %d %d %v", strings.TrimSuffix(text, items), got.kind, got.code, got.print, kind, code, print)
		return got
	}
	wantFuel(t, l, input, got, fuelsFor(got)...)
	return got
}

// wantPrint asks of a body of main, that comes to its end, what is printed.
func wantPrint(t *testing.T, body string, print ...int) {
	t.Helper()
	wantRun(t, inMain(body), nil, api.OutExit, 0, print...)
}

// wantPanic asks of a body of main that panics.
func wantPanic(t *testing.T, body string, print ...int) {
	t.Helper()
	wantRun(t, inMain(body), nil, api.OutExit, 101, print...)
}

// wantSteps asks how many steps a body of main takes, beside the block that it is.
func wantSteps(t *testing.T, body string, steps int) {
	t.Helper()
	l := taken(t, inMain(body))
	got := outcome(t, l, nil, plenty)
	if got.kind != api.OutExit || got.code != 0 || got.steps != steps+1 {
		t.Errorf("%s: %v, not %d steps", body, got, steps+1)
	}
	wantFuel(t, l, nil, got, fuelsFor(got)...)
}

// fill fills the blocks of class 0 with Boxes, and prints 1000 for each.
const fill = " let mut filled = L::N; loop { filled = L::C(Box::new(filled)); print(1000); }"

// wantLive asks how many Boxes of class 0 are live behind a body: as many fewer come in, till there is no room.
func wantLive(t *testing.T, body string, live int, print ...int) {
	t.Helper()
	wantFilled(t, inMain(body+fill), live, print...)
}

func wantFilled(t *testing.T, text string, live int, print ...int) {
	t.Helper()
	for range 64 - live {
		print = append(print, 1000)
	}
	wantRun(t, text, nil, api.OutMemory, 0, print...)
}

// everyTree tells each tree of a program's functions, to be changed there.
func everyTree(l []api.Item) []*api.Expr {
	var all []*api.Expr
	var into func(x *api.Expr)
	into = func(x *api.Expr) {
		all = append(all, x)
		for k := range x.Kids {
			into(&x.Kids[k])
		}
	}
	for k := range l {
		if l[k].Kind == api.ItFunc {
			into(&l[k].Body)
		}
	}
	return all
}

// copyOf is a program in memory of its own.
func copyOf(l []api.Item) []api.Item {
	own := slices.Clone(l)
	for k := range own {
		own[k].Body = copyOfTree(own[k].Body)
	}
	return own
}

func copyOfTree(x api.Expr) api.Expr {
	x.Kids = slices.Clone(x.Kids)
	for k := range x.Kids {
		x.Kids[k] = copyOfTree(x.Kids[k])
	}
	return x
}
