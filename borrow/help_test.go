package borrow

import (
	"slices"
	"strings"
	"testing"

	"ferrule/api"
	"ferrule/parse"
	"ferrule/typeck"
	"ferrule/types"
)

// others are items that the bodies of the tests speak of.
const others = ` struct P { a: i32, b: i32 } struct Q { p: P, k: Box<i32>, l: [i32; 2], n: [Box<i32>; 2] } struct D { q: Q, m: Box<Q>, e: E }
enum E { N, A(Box<i32>), B(i32, Box<i32>) } enum Z {} const ONE: i32 = 1;
fn give() -> Box<i32> { Box::new(1) } fn q() -> Q { Q { p: P { a: 1, b: 2 }, k: give(), l: [1, 2], n: [give(), give()] } } fn yes() -> bool { true } fn nobody() -> Z { loop {} }
fn eat(b: Box<i32>) -> i32 { *b } fn ask(b: Box<i32>) -> bool { true } fn three(a: Box<i32>, b: Box<i32>, c: Box<i32>) {} fn part(q: Q) {}
fn see(r: &i32) -> i32 { *r } fn set(r: &mut i32) -> i32 { *r } fn seen(r: &Box<i32>) -> i32 { 1 } fn swap(r: &mut Box<i32>) -> i32 { 1 } fn looked(q: &Q) -> i32 { 1 } fn changed(q: &mut Q) -> i32 { 1 }
fn rr(a: &i32, b: &i32) {} fn rm(a: &i32, b: &mut i32) {} fn mr(a: &mut i32, b: &i32) {} fn mm(a: &mut i32, b: &mut i32) {} fn ri(a: &i32, b: i32) {} fn mi(a: &mut i32, b: i32) -> i32 { b } fn ir(a: i32, b: &i32) {} fn im(a: i32, b: &mut i32) {}
fn qq(a: &Q, b: &Q) {} fn qm(a: &Q, b: &mut Q) {} fn qr(a: &Q, b: &i32) {} fn qs(a: &Q, b: &mut i32) {} fn qi(a: &Q, b: i32) {} fn mq(a: &mut Q, b: &Q) {} fn ms(a: &mut Q, b: &mut i32) {} fn mo(a: &mut Q, b: i32) {} fn qb(a: &Q, b: Box<i32>) {} fn bb(a: &Box<i32>, b: Box<i32>) {} fn bi(a: &Box<i32>, b: i32) {} fn bq(a: &Box<i32>, b: Q) {}
fn mmm(a: &mut i32, b: &mut i32, c: &mut i32) {} fn rii(a: &i32, b: i32, c: i32) {} fn mrr(a: &mut i32, b: &i32, c: &i32) {} fn iri(a: i32, b: &i32, c: i32) {} fn lr(a: &[i32; 2], b: &mut i32) {}
`

// inMain is a program whose main has a body; what else it needs stands behind that, so that places in the body are easily told.
func inMain(body string) string { return "fn main() { " + body + " }" + others }

// start declares variables that nothing has become of yet.
const start = "let mut b = give(); let mut c = give(); let mut x = 1; let mut y = 2; let mut l = [1, 2]; let mut n = [give(), give()]; let mut q = q(); let mut p = P { a: 1, b: 2 }; let mut bb = Box::new(give()); let mut e = E::N; let t = yes(); "

// typed is a program of a text, behind typeck.
func typed(t *testing.T, text string) []api.Item {
	t.Helper()
	l, at, e := parse.Parse(text)
	if e != api.OK {
		t.Fatalf("no program, %d at %d: %.50s", int(e), at, text[max(0, at-20):])
	}
	told, at, e := typeck.Check(l)
	if e != api.OK {
		t.Fatalf("not typed, %d at %d: %.50s", int(e), at, text[max(0, at-20):])
	}
	return told
}

// wantFault asks for what is told of a program, and once more.
func wantFault(t *testing.T, l []api.Item, text string, at int, e api.Errno) {
	t.Helper()
	for range 2 {
		if gotAt, got := Check(l); gotAt != at || got != e {
			t.Errorf("%.500s: %d at %d, not %d at %d", strings.TrimSuffix(text, others), int(got), gotAt, int(e), at)
		}
	}
}

// wantProgram asks of programs in which an @ marks where something is wrong; it is taken out ahead of the call. None: nothing is.
func wantProgram(t *testing.T, e api.Errno, marked ...string) {
	t.Helper()
	for _, text := range marked {
		at := max(0, strings.Index(text, "@"))
		if (at > 0) != (e != api.OK) {
			t.Fatalf("%.500s: %d", text, int(e))
		}
		wantFault(t, typed(t, strings.Replace(text, "@", "", 1)), text, at, e)
	}
}

// wantWrong asks of bodies of main, behind start.
func wantWrong(t *testing.T, e api.Errno, marked ...string) {
	t.Helper()
	for _, body := range marked {
		wantProgram(t, e, inMain(start+body))
	}
}

// wantTaken asks whether nothing is against bodies of main, behind start.
func wantTaken(t *testing.T, bodies ...string) {
	t.Helper()
	wantWrong(t, api.OK, bodies...)
}

// wantIn asks of bodies of a function with params.
func wantIn(t *testing.T, e api.Errno, params string, marked ...string) {
	t.Helper()
	for _, body := range marked {
		wantProgram(t, e, "fn it("+params+") { "+body+" } fn main() {}"+others)
	}
}

// bodyOf tells the body of a function.
func bodyOf(l []api.Item, name string) *api.Expr {
	return &l[types.Find(l, api.ItFunc, name)].Body
}

// everyTree tells each tree of a program's functions, to be changed there.
func everyTree(l []api.Item) []*api.Expr {
	var all []*api.Expr
	var into func(x *api.Expr)
	into = func(x *api.Expr) {
		all = append(all, x)
		for k := range x.Kids {
			into(&x.Kids[k])
		}
	}
	for k := range l {
		if l[k].Kind == api.ItFunc {
			into(&l[k].Body)
		}
	}
	return all
}

// copied is a program in memory of its own.
func copied(l []api.Item) []api.Item {
	own := slices.Clone(l)
	for k := range own {
		own[k].Body = copiedTree(own[k].Body)
	}
	return own
}

func copiedTree(x api.Expr) api.Expr {
	x.Kids = slices.Clone(x.Kids)
	for k := range x.Kids {
		x.Kids[k] = copiedTree(x.Kids[k])
	}
	return x
}
