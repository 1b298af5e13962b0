package model

import (
	"math"
	"math/rand"
	"slices"
	"strings"
	"testing"

	"ferrule/api"
	"ferrule/parse"
)

// P10.1 and P10.2 of programs that borrow, or even typeck, does not take.

// wantStuck asks of a program that typeck takes, but borrow does not need to.
func wantStuck(t *testing.T, text string, print ...int) {
	t.Helper()
	wantItems(t, typed(t, text), text, nil, api.OutStuck, 0, print...)
}

func TestNoMain(t *testing.T) {
	for _, l := range [][]api.Item{nil, {}, {{}}, {{Kind: api.ItStruct, Name: "main"}}, {{Kind: api.ItFunc, Name: "Main"}}, {{Kind: api.ItEnum, Name: "main"}, {Kind: api.ItConst, Name: "main"}}, {{Kind: 9, Name: "main"}}} {
		for _, fuel := range []int{math.MinInt, -1, 0, 1, 100, math.MaxInt} {
			if got := outcome(t, l, []int{1}, fuel); !got.same(result{kind: api.OutStuck}) {
				t.Errorf("%v with the fuel %d: %v", l, fuel, got)
			}
		}
	}
	// An item of another kind of that name is not main, and the first function is.
	l := slices.Concat([]api.Item{{Kind: api.ItStruct, Name: "main"}}, typed(t, inMain("print(1);")), typed(t, inMain("print(2);")))
	wantItems(t, l, "", nil, api.OutExit, 0, 1)
}

// Places that hold nothing, as their value was moved away.
func TestPlacesThatHoldNothing(t *testing.T) {
	for _, body := range []string{
		"let b = box(1); let c = b; print(1); print(*b);", "let b = box(1); drop(b); print(1); drop(b);", "let b = box(1); b; print(1); b;", "let b = box(1); b; print(1); let c = b;", "let q = q(); let r = q; print(1); print(q.p.a);", "let n = [box(1), box(2)]; n; print(1); print(*n[0]);",
		"let b = box(1); b; print(1); look(&b);", "let b = Box::new(box(1)); b; print(1); look(&*b);", "let mut b = box(1); b; print(1); *b = 5;", "let mut q = q(); q; print(1); q.p.a = 5;", "let mut q = q(); q; print(1); q.k = box(1);", "let mut n = [box(1), box(2)]; n; print(1); n[0] = box(3);",
		"let mut b = box(1); b; print(1); replace(&mut b, box(2));", "let mut i = 0; let b = box(1); while i < 2 { print(i + 1); drop(b); i = i + 2; } drop(b);", "let e = E::B(box(1), 2); match e { _ => {} } print(1); match e { _ => {} }", "let b = box(1); if yes() { b; } print(1); b;",
		// Parts can be moved away by themselves, where borrow is not asked.
		"let q = q(); let k = q.k; print(1); print(*q.k);", "let q = q(); let k = q.k; print(1); drop(q.k);", "let n = [box(1), box(2)]; let b = n[1]; print(1); print(*n[1]);", "let b = Box::new(box(1)); let c = *b; print(1); let d = *b;", "let b = Box::new(box(1)); let c = *b; print(1); unbox(b);", "let q = q(); let k = q.k; let r = q; print(1); print(*r.k);",
		// What is moved away while it is borrowed is not there any more, nor are its parts.
		"let b = box(1); both(&b, { drop(b); 1 });", "let q = q(); both(&q.k, { q; 1 });", "let n = [box(1), box(2)]; both(&n[1], { let m = n; 1 });",
	} {
		wantStuck(t, inMain(body)+" fn both(r: &Box<i32>, n: i32) { print(n); print(**r); }", 1)
	}
	wantStuck(t, inMain("let b = box(1); loop { print(*b); b; }"), 1)
	// It is not there for the borrow either where it is still held by whoever it was moved to.
	for params, args := range map[string]string{"b: Box<i32>": "let b = box(1); kept(&b, b);", "q: Q": "let q = q(); kept(&q.k, q);", "n: [Box<i32>; 2]": "let n = [box(1), box(2)]; kept(&n[1], n);", "n: N": "let n = N { b: [box(1), box(2)] }; kept(&n.b[0], n);", "n: i32, m: i32": "let mut t = T { q: fresh() }; let s = T { q: fresh() }; kept(&s.q.k, { s.q; 1 }, { t = s; t.q = fresh(); 1 });"} {
		wantStuck(t, inMain(args)+" struct T { q: Q } fn kept(r: &Box<i32>, "+params+") { print(1); print(**r); }", 1)
	}
	// The run goes on where nothing is used that is not there: what a Box held is, also if the Box was let go.
	for body, print := range map[string]int{"let b = Box::new(box(1)); both(&*b, { unbox(b); 1 });": 1, "let mut b = Box::new(box(1)); both(&*b, { b = Box::new(box(2)); 1 });": 1, "let b = Box::new(q()); both(&b.k, { let c = b; 1 });": 3, "let b = box(1); b; seen(&b);": 7, "let q = q(); let k = q.k; print(q.p.a);": 1, "let mut q = q(); let k = q.k; q.k = box(5); print(*q.k + *k);": 8, "let n = [box(1), box(2)]; let b = n[0]; print(*n[1]);": 2, "let mut b = Box::new(box(1)); let c = *b; *b = box(4); print(**b);": 4, "let mut q = fresh(); both(&q.k, { q = fresh(); 1 });": 3} {
		text := inMain(body) + " fn seen(r: &Box<i32>) { print(7); } fn both(r: &Box<i32>, n: i32) { print(**r); }"
		wantItems(t, typed(t, text), text, nil, api.OutExit, 0, print)
	}
}

// What is moved away in parts is let go in parts, each once.
func TestLetGoInParts(t *testing.T) {
	for body, live := range map[string]int{"let q = q(); let k = q.k;": 1, "{ let q = q(); let k = q.k; }": 0, "let n = [box(1), box(2)]; n[0];": 1, "let n = N { b: [box(1), box(2)] }; { let m = n.b[1]; let o = n; }": 0, "let b = Box::new(box(1)); *b;": 1, "{ let b = Box::new(box(1)); *b; }": 0, "let mut q = q(); q.k; q.k = box(2);": 1, "let n = [box(1), box(2)]; n[0]; { n; }": 0, "let n = [box(1), box(2)]; n[0]; match E::C(n[1], box(3)) { E::C(_, c) => {}, _ => {} }": 0} {
		var print []int
		for range 64 - live {
			print = append(print, 1000)
		}
		wantItems(t, typed(t, inMain(body+fill)), body, nil, api.OutMemory, 0, print...)
	}
}

// Where borrow is not asked, a Box can come to hold itself: to let that go has an end.
func TestBoxInItself(t *testing.T) {
	text := inMain("let mut b = Box::new(L::N); f(&mut *b, b); print(1);") + " fn f(r: &mut L, b: Box<L>) { *r = L::C(b); BEHIND }"
	for behind, live := range map[string]int{"": 1, "*r = L::N;": 0, "replace(r, L::N);": 0, "match *r { _ => {} }": 0, "*r;": 0} {
		wantItems(t, typed(t, strings.Replace(text, "BEHIND", behind, 1)), behind, nil, api.OutExit, 0, 1)
		filled := strings.Replace(strings.Replace(text, "BEHIND", behind, 1), "print(1);", fill, 1)
		var print []int
		for range 64 - live {
			print = append(print, 1000)
		}
		wantItems(t, typed(t, filled), behind, nil, api.OutMemory, 0, print...)
	}
}

// Trees by hand.

func ty(kind int, elem ...api.Type) api.Type { return api.Type{Kind: kind, Elem: elem} }

func tree(kind, n int, kids ...api.Expr) api.Expr {
	return api.Expr{Kind: kind, Num: n, Kids: kids, Type: ty(api.TyI32)}
}

func text(kind int, s string, kids ...api.Expr) api.Expr {
	x := tree(kind, 0, kids...)
	x.Text = s
	return x
}

func of(t api.Type, x api.Expr) api.Expr {
	x.Type = t
	return x
}

func number(n int) api.Expr { return tree(api.ExInt, n) }

func printed(x api.Expr) api.Expr { return tree(api.ExStmt, 0, text(api.ExCall, "print", x)) }

func let(slot int, x api.Expr) api.Expr { return tree(api.ExLet, 2*slot, x) }

func variableOf(slot int) api.Expr { return tree(api.ExVar, slot) }

// mainOf is a program whose main has just some statements.
func mainOf(list ...api.Expr) []api.Item {
	return append([]api.Item{{Kind: api.ItFunc, Name: "main", Body: of(ty(api.TyUnit), tree(api.ExBlock, 0, list...))}}, others()...)
}

// others are functions that trees by hand may call.
func others() []api.Item {
	l, _, _ := parse.Parse("fn one(n: i32) {} fn leave() {} struct S { a: i32 } enum E { A }")
	l[1].Body.Kids = []api.Expr{tree(api.ExBreak, 0)}
	return l
}

// kidsOf are how many kids each kind of tree can have, as least and most: above 9 any number.
func kidsOf(kind int) (int, int) {
	switch kind {
	case api.ExIf:
		return 2, 3
	case api.ExReturn:
		return 0, 1
	case api.ExMatch:
		return 1, 10
	case api.ExInt, api.ExBool, api.ExUnit, api.ExVar, api.PaInt, api.PaBool, api.PaAny, api.PaBind, api.ExBreak, api.ExNext:
		return 0, 0
	case api.ExNeg, api.ExNot, api.ExDeref, api.ExBorrow, api.ExCast, api.ExField, api.ExInit, api.ExRepeat, api.ExLoop, api.ExLet, api.ExStmt:
		return 1, 1
	case api.ExBin, api.ExIndex, api.ExArm, api.ExWhile, api.ExAssign:
		return 2, 2
	}
	return 0, 10
}

// A tree of too few or too many kids has no rule: the run has printed what comes ahead of it, and taken its step.
func TestTooFewAndTooManyKids(t *testing.T) {
	for kind := api.ExInt; kind <= api.ExStmt; kind++ {
		least, most := kidsOf(kind)
		for n := range 5 {
			if least <= n && n <= most {
				continue
			}
			got := outcome(t, mainOf(printed(number(1)), tree(kind, 0, slices.Repeat([]api.Expr{number(2)}, n)...)), nil, plenty)
			if !got.same(result{api.OutStuck, 0, 5, []int{1}}) {
				t.Errorf("%d kids of the kind %d: %v", n, kind, got)
			}
		}
	}
}

// Kinds that are none, and those that have no rule where they stand.
func TestKindsWithoutARule(t *testing.T) {
	x := variableOf(0)
	for _, wrong := range []api.Expr{
		{}, {Kind: -1}, {Kind: 36}, {Kind: 99}, {Kind: math.MaxInt}, {Kind: math.MinInt}, tree(api.ExInit, 0, number(1)), tree(api.ExArm, 0, tree(api.PaAny, 0), number(1)), tree(api.PaInt, 1), tree(api.PaBool, 1), tree(api.PaAny, 0), tree(api.PaVariant, 0), tree(api.PaBind, 0), tree(api.ExBorrow, 0, x), tree(api.ExBorrow, 1, x),
	} {
		for at, where := range [][]api.Expr{{wrong}, {tree(api.ExStmt, 0, wrong)}, {let(1, wrong)}, {printed(wrong)}, {tree(api.ExLoop, 0, wrong)}} {
			if wrong.Kind == api.ExBorrow && at == 3 {
				continue
			}
			l := mainOf(append([]api.Expr{let(0, number(5)), printed(number(1))}, where...)...)
			wantItems(t, l, "", nil, api.OutStuck, 0, 1)
		}
	}
}

// Trees that are formed, but of what has no rule.
func TestValuesWithoutARule(t *testing.T) {
	unit, yes := tree(api.ExUnit, 0), of(ty(api.TyBool), tree(api.ExBool, 1))
	list := tree(api.ExArray, 0, number(1), number(2))
	boxOf := func(x api.Expr) api.Expr {
		return of(ty(api.TyBox, ty(api.TyI32)), text(api.ExVariant, "Box::new", x))
	}
	bin := func(sign string, a, b api.Expr) api.Expr { return text(api.ExBin, sign, a, b) }
	init := func(n int, x api.Expr) api.Expr { return tree(api.ExInit, n, x) }
	arm := func(pattern, x api.Expr) api.Expr { return tree(api.ExArm, 0, pattern, x) }
	untyped := func(x api.Expr) api.Expr { return of(api.Type{}, x) }
	for k, wrong := range []api.Expr{
		// Names, slots, fields, indexes that are none.
		variableOf(1), variableOf(-1), variableOf(math.MaxInt), text(api.ExCall, "nobody"), text(api.ExCall, ""), text(api.ExCall, "S"), text(api.ExCall, "one"), text(api.ExCall, "one", number(1), number(2)), text(api.ExCall, "print"), text(api.ExCall, "print", number(1), number(2)), text(api.ExCall, "read", number(1)), text(api.ExCall, "unbox"), text(api.ExCall, "replace", number(1)),
		tree(api.ExField, 0, variableOf(0)), tree(api.ExIndex, 0, variableOf(0), number(0)), tree(api.ExDeref, 0, variableOf(0)), tree(api.ExField, 1, variableOf(2)), tree(api.ExField, -1, variableOf(2)), tree(api.ExField, math.MaxInt, variableOf(2)), tree(api.ExField, 0, variableOf(3)), tree(api.ExIndex, 0, variableOf(2), number(0)), tree(api.ExIndex, 0, variableOf(3), unit), tree(api.ExIndex, 0, variableOf(3), list),
		// No places.
		tree(api.ExField, 0, number(1)), tree(api.ExDeref, 0, boxOf(number(1))), tree(api.ExIndex, 0, list, number(0)), tree(api.ExAssign, 0, number(1), number(2)), text(api.ExCall, "one", tree(api.ExBorrow, 0, number(1))), text(api.ExCall, "replace", tree(api.ExBorrow, 1, list), number(1)),
		// Signs of what they are not for.
		bin("", number(1), number(2)), bin("**", number(1), number(2)), bin("=", number(1), number(2)), bin("+", unit, number(1)), bin("+", number(1), unit), bin("==", list, list), bin("&&", unit, yes), bin("&&", yes, unit), bin("||", list, yes), bin("+", yes, yes), bin("<<", yes, number(1)), bin("+", untyped(number(1)), number(2)), bin("+", number(1<<31), number(0)), bin("+", number(0), number(-1<<31-1)),
		tree(api.ExNeg, 0, unit), tree(api.ExNot, 0, list), untyped(tree(api.ExNeg, 0, number(1))), tree(api.ExCast, 0, number(1)), {Kind: api.ExCast, Kids: []api.Expr{unit}, Ty: []api.Type{ty(api.TyU8)}}, {Kind: api.ExCast, Kids: []api.Expr{number(1)}, Ty: []api.Type{ty(api.TyU8), ty(api.TyU8)}}, tree(api.ExBool, 2), tree(api.ExBool, -1),
		// Conditions, matches, arms.
		tree(api.ExIf, 0, unit, number(1)), tree(api.ExIf, 0, list, number(1), number(2)), tree(api.ExWhile, 0, unit, number(1)), tree(api.ExMatch, 0, number(1)), tree(api.ExMatch, 0, number(1), arm(tree(api.PaInt, 2), number(1))), tree(api.ExMatch, 0, number(1), number(2)), tree(api.ExMatch, 0, number(1), arm(number(1), number(2))), tree(api.ExMatch, 0, number(1), arm(tree(api.PaInt, 1, number(1)), number(2))), tree(api.ExMatch, 0, number(1), tree(api.ExArm, 0, tree(api.PaAny, 0))), tree(api.ExMatch, 0, number(1), arm(tree(api.PaVariant, 1), number(2))), tree(api.ExMatch, 0, unit, arm(tree(api.PaInt, 0), number(2))),
		tree(api.ExMatch, 0, text(api.ExVariant, "E::A", number(1)), arm(tree(api.PaVariant, 0), number(2))), tree(api.ExMatch, 0, text(api.ExVariant, "E::A", number(1)), arm(tree(api.PaVariant, 0, number(3)), number(2))), tree(api.ExMatch, 0, text(api.ExVariant, "E::A"), arm(tree(api.PaVariant, 0, tree(api.PaBind, 5)), number(2))), tree(api.ExMatch, 0, text(api.ExVariant, "E::A"), arm(tree(api.PaVariant, 1), number(2))),
		// Structs, arrays, Boxes.
		text(api.ExStruct, "S", number(1)), text(api.ExStruct, "S", init(1, number(1))), text(api.ExStruct, "S", init(-1, number(1))), text(api.ExStruct, "S", init(0, number(1)), init(0, number(2))), text(api.ExStruct, "S", tree(api.ExInit, 0)), tree(api.ExRepeat, -1, number(1)), tree(api.ExRepeat, 512, number(1)), tree(api.ExRepeat, math.MaxInt, number(1)), tree(api.ExRepeat, math.MinInt, number(1)), tree(api.ExRepeat, 1<<32, number(1)), tree(api.ExRepeat, 300, list), tree(api.ExRepeat, 1, boxOf(number(1))), tree(api.ExArray, 0, slices.Repeat([]api.Expr{number(1)}, 512)...), tree(api.ExArray, 0, tree(api.ExRepeat, 510, number(1)), number(1)),
		text(api.ExVariant, "Box::new", number(1)), of(ty(api.TyBox), text(api.ExVariant, "Box::new", number(1))), of(ty(api.TyBox, ty(api.TyNever)), text(api.ExVariant, "Box::new", number(1))), of(ty(api.TyBox, ty(99)), text(api.ExVariant, "Box::new", number(1))), of(ty(api.TyBox, api.Type{Kind: api.TyNamed, Name: "X"}), text(api.ExVariant, "Box::new", number(1))), of(ty(api.TyBox, api.Type{Kind: api.TyArray, N: 129, Elem: []api.Type{ty(api.TyU8)}}), text(api.ExVariant, "Box::new", number(1))), of(ty(api.TyBox, ty(api.TyI32)), text(api.ExVariant, "Box::new")), of(ty(api.TyBox, ty(api.TyI32)), text(api.ExVariant, "Box::new", number(1), number(2))), of(ty(api.TyRef, ty(api.TyI32)), text(api.ExVariant, "Box::new", number(1))),
		// Calls with other values than they are for; ends of what is not there.
		text(api.ExCall, "print", unit), text(api.ExCall, "print", list), text(api.ExCall, "print", boxOf(number(1))), text(api.ExCall, "print", tree(api.ExBorrow, 0, variableOf(0))), text(api.ExCall, "unbox", number(1)), text(api.ExCall, "unbox", tree(api.ExBorrow, 0, variableOf(0))), text(api.ExCall, "replace", number(1), number(2)), text(api.ExCall, "replace", boxOf(number(1)), number(2)), tree(api.ExBreak, 0), tree(api.ExNext, 0), tree(api.ExLoop, 0, text(api.ExCall, "leave")), tree(api.ExBlock, 1),
		// A variable whose scope has ended.
		tree(api.ExBlock, 0, tree(api.ExBlock, 0, let(4, number(1))), variableOf(4)), tree(api.ExBlock, 0, tree(api.ExBlock, 0, let(4, number(1))), tree(api.ExAssign, 0, variableOf(4), number(2))),
		// A Box is not copied, whatever its tree says of its type.
		tree(api.ExBlock, 0, let(4, boxOf(number(1))), variableOf(4)), tree(api.ExBlock, 0, let(4, tree(api.ExArray, 0, boxOf(number(1)))), variableOf(4)),
	} {
		s := text(api.ExStruct, "S", init(0, number(1)))
		l := mainOf(let(0, number(5)), let(2, s), let(3, list), printed(number(1)), tree(api.ExStmt, 0, wrong), printed(number(2)))
		got := outcome(t, l, nil, plenty)
		if got.kind != api.OutStuck || !slices.Equal(got.print, []int{1}) {
			t.Errorf("%d, %v: %v", k, wrong, got)
		}
		wantFuel(t, l, nil, got, fuelsFor(got)...)
	}
}

// Trees that are not as typeck tells them, but have a rule.
func TestOtherTreesWithARule(t *testing.T) {
	list := tree(api.ExArray, 0, number(1), number(2))
	for want, x := range map[int]api.Expr{
		11: of(api.Type{}, number(11)),
		13: tree(api.ExBlock, 1, list, number(13)),
		14: tree(api.ExBlock, 1, let(-3, number(14)), variableOf(-3)),
		15: tree(api.ExBlock, 1, let(7, list), tree(api.ExAssign, 0, tree(api.ExIndex, 0, variableOf(7), number(1)), number(15)), tree(api.ExIndex, 0, variableOf(7), number(1))),
		16: tree(api.ExBlock, 1, let(math.MaxInt/2, number(16)), variableOf(math.MaxInt/2)),
		17: tree(api.ExIf, 0, number(5), number(17)),
		1:  text(api.ExBin, "==", number(1<<40), number(1<<40)),
	} {
		wantItems(t, mainOf(printed(x)), "", nil, api.OutExit, 0, want)
	}
	// A main with params has no variables; what it answers does not matter.
	l := typed(t, "fn main() { print(1); }")
	l[0].Params = []api.Param{{Name: "x", Type: ty(api.TyI32)}}
	wantItems(t, l, "", nil, api.OutExit, 0, 1)
	l[0].Body = tree(api.ExBlock, 1, printed(number(1)), variableOf(0))
	wantItems(t, l, "", nil, api.OutStuck, 0, 1)
	l[0].Params, l[0].Body = nil, number(5)
	wantItems(t, l, "", nil, api.OutExit, 0)
	l[0].Body = tree(api.ExLoop, 0, tree(api.ExBlock, 0, printed(number(4)), tree(api.ExBreak, 0)))
	wantItems(t, l, "", nil, api.OutExit, 0, 4)
	l[0].Body = api.Expr{}
	wantItems(t, l, "", nil, api.OutStuck, 0)
	// Programs of parse have no types: what needs none goes on.
	l, _, _ = parse.Parse("fn f(n: i32) { print(2); } fn main() { print(1); f(5); print(3 + 4); }")
	wantItems(t, l, "", nil, api.OutStuck, 0, 1, 2)
}

// A value that grows with each turn, as no type lets it, comes to an end.
func TestGrowingValues(t *testing.T) {
	for _, grown := range []api.Expr{tree(api.ExArray, 0, of(api.Type{}, variableOf(0))), tree(api.ExArray, 0, of(api.Type{}, variableOf(0)), number(1)), text(api.ExVariant, "E::A", of(api.Type{}, variableOf(0))), text(api.ExStruct, "S", tree(api.ExInit, 0, of(api.Type{}, variableOf(0)))), tree(api.ExRepeat, 2, of(api.Type{}, variableOf(0)))} {
		l := mainOf(let(0, number(1)), tree(api.ExLoop, 0, tree(api.ExBlock, 0, tree(api.ExAssign, 0, variableOf(0), grown), printed(number(1)))))
		got := outcome(t, l, nil, plenty)
		if got.kind != api.OutStuck || len(got.print) > 512 || len(got.print) < 8 {
			t.Errorf("%v: %v", grown, got)
		}
	}
}

// nested is a tree in so many others.
func nested(n int, inmost api.Expr, around func(x api.Expr) api.Expr) api.Expr {
	for range n {
		inmost = around(inmost)
	}
	return inmost
}

// Trees 2^16 deep, in as many calls as there may be.
func TestDeepTrees(t *testing.T) {
	const deep = 1<<16 - 16
	sum := nested(deep, variableOf(0), func(x api.Expr) api.Expr { return text(api.ExBin, "+", x, number(1)) })
	got := outcome(t, mainOf(let(0, number(5)), printed(sum)), nil, plenty)
	if !slices.Equal(got.print, []int{5 + deep}) || got.steps != 1+2+2+2*deep+1 {
		t.Error(got)
	}
	arm := func(x api.Expr) api.Expr { return tree(api.ExArm, 0, tree(api.PaAny, 0), x) }
	for k, around := range []func(x api.Expr) api.Expr{
		func(x api.Expr) api.Expr { return tree(api.ExNeg, 0, tree(api.ExNot, 0, x)) },
		func(x api.Expr) api.Expr {
			return tree(api.ExIf, 0, tree(api.ExMatch, 0, x, arm(number(1))), number(1))
		},
		func(x api.Expr) api.Expr {
			return tree(api.ExMatch, 0, number(1), arm(tree(api.ExBlock, 1, let(5, number(1)), x)))
		},
	} {
		body := func(calls int) []api.Item {
			l := append(mainOf(printed(text(api.ExCall, "f", number(calls-2)))), api.Item{Kind: api.ItFunc, Name: "f", Params: make([]api.Param, 1)})
			again := text(api.ExCall, "f", text(api.ExBin, "-", variableOf(0), number(1)))
			l[len(l)-1].Body = nested(deep/2, tree(api.ExIf, 0, text(api.ExBin, "==", variableOf(0), number(0)), number(1), again), around)
			return l
		}
		for _, calls := range []int{2, 3, api.MaxDepth} {
			if got := outcome(t, body(calls), nil, math.MaxInt); got.kind != api.OutExit || len(got.print) != 1 {
				t.Errorf("%d: %v", k, got)
			}
		}
	}
	place := nested(deep, variableOf(0), func(x api.Expr) api.Expr { return tree(api.ExDeref, 0, x) })
	wantItems(t, mainOf(let(0, number(5)), printed(place)), "", nil, api.OutStuck, 0)
}

// Trees that share their memory, and so are more than could ever be run: the fuel ends that.
func TestSharedTrees(t *testing.T) {
	x := number(0)
	for range 200 {
		x = text(api.ExBin, "+", x, x)
	}
	l := mainOf(printed(number(1)), printed(x))
	wantFuel(t, l, nil, outcome(t, l, nil, 100000), 0, 1, 5, 100, 99999)
	if got := outcome(t, l, nil, 100000); !got.same(result{api.OutFuel, 0, 100000, []int{1}}) {
		t.Error(got)
	}
}

// changed changes something of a program by chance.
func changed(chance *rand.Rand, l []api.Item) {
	all := everyTree(l)
	x, y := all[chance.Intn(len(all))], all[chance.Intn(len(all))]
	switch chance.Intn(12) {
	case 0:
		x.Kind = chance.Intn(38)
	case 1:
		x.Num = []int{-1, 0, 1, 2, 3, 4, 5, 511, 1 << 20, math.MaxInt, math.MinInt}[chance.Intn(11)]
	case 2:
		x.Text = []string{"", "+", "&&", "<<", "==", "print", "read", "unbox", "replace", "Box::new", "f0", "f1", "main"}[chance.Intn(13)]
	case 3:
		x.Kids = x.Kids[:chance.Intn(len(x.Kids)+1)]
	case 4:
		x.Kids = append(slices.Clone(x.Kids), copyOfTree(*y))
	case 5:
		x.Type = api.Type{Kind: chance.Intn(16)}
	case 6:
		x.Type = y.Type
	case 7:
		x.Ty = y.Ty
	case 8:
		slices.Reverse(x.Kids)
	case 9:
		x.Num = y.Num
	default:
		*x = copyOfTree(*y)
	}
}

// TestWrongByChance runs programs some of whose trees were changed: each has an answer, and P10.2 holds of it.
func TestWrongByChance(t *testing.T) {
	var sound [][]api.Item
	for seed := range 300 {
		sound = append(sound, typed(t, program(int64(seed), 10+seed%40)))
	}
	seen := map[int]int{}
	for seed := range 6000 {
		chance := rand.New(rand.NewSource(int64(seed)))
		l := copyOf(sound[seed%len(sound)])
		for range 1 + chance.Intn(6) {
			changed(chance, l)
		}
		whole := outcome(t, l, []int{1, 2}, 3000)
		seen[whole.kind]++
		for range 4 {
			wantFuel(t, l, []int{1, 2}, whole, chance.Intn(whole.steps+1))
		}
	}
	for _, kind := range []int{api.OutFuel, api.OutExit, api.OutStuck} {
		if seen[kind] < 100 {
			t.Errorf("%d only %d times: %v", kind, seen[kind], seen)
		}
	}
}
