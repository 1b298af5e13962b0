package build_test

import (
	"math"
	"math/rand"
	"slices"
	"strconv"
	"strings"
	"testing"

	"ferrule/api"
	"ferrule/build"
	"ferrule/mir"
	"ferrule/model"
	"ferrule/parse"
)

// P13.1: of items that typeck does not tell ErrForm, where that is seen; and an answer in every case.

// wantAnswer asks for one of the two answers that there are.
func wantAnswer(t *testing.T, l []api.Item) bool {
	t.Helper()
	list, e := build.Build(l)
	switch {
	case e == api.ErrForm && len(list) == 0:
		return false
	case e == api.OK && mir.Check(list) == api.OK:
		mir.Run(l, list, []int{1, 2, 3}, 2000)
		return true
	}
	t.Fatalf("%d, with %d functions", int(e), len(list))
	return false
}

func wantErrForm(t *testing.T, what string, l []api.Item) {
	t.Helper()
	if wantAnswer(t, l) {
		t.Error("taken:", what)
	}
}

func TestNoItems(t *testing.T) {
	for _, l := range [][]api.Item{nil, {}} {
		if list, e := build.Build(l); e != api.OK || len(list) != 0 {
			t.Error(list, int(e))
		}
	}
	l := typed(t, "fn main() {} struct S { a: u8 } enum E { A } const C: u8 = 1;")
	if list, e := build.Build(l[1:]); e != api.OK || len(list) != 0 {
		t.Error(list, int(e))
	}
}

// What parse tells has no types yet.
func TestNotTyped(t *testing.T) {
	for _, text := range []string{"fn main() {}", "fn main() { print(1); }", inMain("let b = box(1);")} {
		l, _, _ := parse.Parse(text)
		wantErrForm(t, text, l)
	}
	wantErrForm(t, "a function without a body", []api.Item{{Kind: api.ItFunc, Name: "main", Type: api.Type{Kind: api.TyUnit}}})
	wantErrForm(t, "nothing", []api.Item{{}})
}

// change changes the first tree of a kind, or all items, of a program.
func change(t *testing.T, text string, kind int, does func(x *api.Expr, l []api.Item)) []api.Item {
	t.Helper()
	l := typed(t, text)
	for _, x := range everyTree(l) {
		if x.Kind == kind {
			does(x, l)
			return l
		}
	}
	t.Fatal("no such tree", kind)
	return nil
}

// everyTree tells each tree of a program's functions, to be changed there.
func everyTree(l []api.Item) []*api.Expr {
	var all []*api.Expr
	var into func(x *api.Expr)
	into = func(x *api.Expr) {
		all = append(all, x)
		for k := range x.Kids {
			into(&x.Kids[k])
		}
	}
	for k := range l {
		if l[k].Kind == api.ItFunc {
			into(&l[k].Body)
		}
	}
	return all
}

func ty(kind int, elem ...api.Type) api.Type { return api.Type{Kind: kind, Elem: elem} }

func TestWrongTrees(t *testing.T) {
	array := api.Type{Kind: api.TyArray, N: 3, Elem: []api.Type{ty(api.TyI32)}}
	for _, c := range []struct {
		what, body string
		kind       int
		does       func(x *api.Expr, l []api.Item)
	}{
		{"a kind that is none", "print(1);", api.ExInt, func(x *api.Expr, l []api.Item) { x.Kind = 99 }},
		{"a kind below all", "print(1);", api.ExInt, func(x *api.Expr, l []api.Item) { x.Kind = math.MinInt }},
		{"a type that is none", "print(1);", api.ExInt, func(x *api.Expr, l []api.Item) { x.Type.Kind = 15 }},
		{"no type", "print(1);", api.ExInt, func(x *api.Expr, l []api.Item) { x.Type = api.Type{} }},
		{"a pattern as a value", "print(1);", api.ExInt, func(x *api.Expr, l []api.Item) { x.Kind = api.PaInt }},
		{"a number of no words", "print(1);", api.ExInt, func(x *api.Expr, l []api.Item) { x.Type = ty(api.TyUnit) }},
		{"a number of several words", "print(1);", api.ExInt, func(x *api.Expr, l []api.Item) { x.Type = array }},
		{"a type of nobody's name", "let p = point(1, 2);", api.ExCall, func(x *api.Expr, l []api.Item) { x.Type.Name = "Nobody" }},
		{"a variable of nobody", "let x = 1; print(x);", api.ExVar, func(x *api.Expr, l []api.Item) { x.Num = 7 }},
		{"a variable below all", "let x = 1; print(x);", api.ExVar, func(x *api.Expr, l []api.Item) { x.Num = -1 }},
		{"a variable of other words", "let x = 1; let y = x;", api.ExVar, func(x *api.Expr, l []api.Item) { x.Type = array }},
		{"a variable behind its scope", "{ let x = 1; } let y = 1; print(y);", api.ExVar, func(x *api.Expr, l []api.Item) { x.Num = 0 }},
		{"a let below all", "let x = 1;", api.ExLet, func(x *api.Expr, l []api.Item) { x.Num = -2 }},
		{"a let of other words", "let x: i32 = 1;", api.ExLet, func(x *api.Expr, l []api.Item) { x.Ty = []api.Type{array} }},
		{"a call of nobody", "zero();", api.ExCall, func(x *api.Expr, l []api.Item) { x.Text = "nobody" }},
		{"a call with too few", "two(1, 2);", api.ExCall, func(x *api.Expr, l []api.Item) { x.Kids = x.Kids[:1] }},
		{"a call with too many", "two(1, 2);", api.ExCall, func(x *api.Expr, l []api.Item) { x.Kids = append(x.Kids, x.Kids[0]) }},
		{"a call of another answer", "zero();", api.ExCall, func(x *api.Expr, l []api.Item) { x.Text = "q" }},
		{"an argument of other words", "drop(box(1));", api.ExCall, func(x *api.Expr, l []api.Item) { x.Text = "eatQ"; x.Type = ty(api.TyI32) }},
		{"a value for a borrow", "let x = 1; see(&x);", api.ExCall, func(x *api.Expr, l []api.Item) { x.Kids[0] = api.Expr{Kind: api.ExInt, Type: ty(api.TyI32)} }},
		{"a variable for a borrow", "let x = 1; see(&x);", api.ExCall, func(x *api.Expr, l []api.Item) { x.Kids[0] = x.Kids[0].Kids[0] }},
		{"a borrow for a Box", "let x = 1; see(&x);", api.ExCall, func(x *api.Expr, l []api.Item) { x.Text = "drop" }},
		{"a borrow for a value", "let x = 1; see(&x);", api.ExCall, func(x *api.Expr, l []api.Item) { x.Text = "one" }},
		{"print of two", "print(1);", api.ExCall, func(x *api.Expr, l []api.Item) { x.Kids = append(x.Kids, x.Kids[0]) }},
		{"print of a Box", "print(1);", api.ExCall, func(x *api.Expr, l []api.Item) { x.Kids[0].Type = ty(api.TyBox, ty(api.TyI32)) }},
		{"print with a value", "print(1);", api.ExCall, func(x *api.Expr, l []api.Item) { x.Type = ty(api.TyI32) }},
		{"print of nothing", "print(1);", api.ExCall, func(x *api.Expr, l []api.Item) { x.Kids = nil }},
		{"read of one", "read();", api.ExCall, func(x *api.Expr, l []api.Item) { x.Kids = []api.Expr{{Kind: api.ExUnit, Type: ty(api.TyUnit)}} }},
		{"unbox of a number", "unbox(box(1));", api.ExCall, func(x *api.Expr, l []api.Item) { x.Kids[0].Type = ty(api.TyI32) }},
		{"unbox into others", "unbox(box(1));", api.ExCall, func(x *api.Expr, l []api.Item) { x.Type = array }},
		{"replace of a number", "let mut x = 1; replace(&mut x, 2);", api.ExCall, func(x *api.Expr, l []api.Item) { x.Kids[0] = x.Kids[1] }},
		{"replace of one", "let mut x = 1; replace(&mut x, 2);", api.ExCall, func(x *api.Expr, l []api.Item) { x.Kids = x.Kids[:1] }},
		{"replace of other words", "let mut x = 1; replace(&mut x, 2);", api.ExCall, func(x *api.Expr, l []api.Item) { x.Type = array }},
		{"a field of nobody", "let p = point(1, 2); print(p.a);", api.ExField, func(x *api.Expr, l []api.Item) { x.Num = 2 }},
		{"a field below all", "let p = point(1, 2); print(p.a);", api.ExField, func(x *api.Expr, l []api.Item) { x.Num = -1 }},
		{"a field of other words", "let q = q(); print(q.p.a);", api.ExField, func(x *api.Expr, l []api.Item) { x.Num = 1; x.Kids[0].Num = 2 }},
		{"a field of an enum", "let p = point(1, 2); print(p.a);", api.ExField, func(x *api.Expr, l []api.Item) { x.Kids[0].Type.Name = "T" }},
		{"a field of a number", "let p = O { x: 1 }; print(p.x);", api.ExField, func(x *api.Expr, l []api.Item) { x.Kids[0].Type = ty(api.TyI32) }},
		{"an element of a number", "let a = [1]; print(a[0]);", api.ExIndex, func(x *api.Expr, l []api.Item) { x.Kids[0].Type = ty(api.TyI32) }},
		{"an index that is a bool", "let a = [1]; print(a[0]);", api.ExIndex, func(x *api.Expr, l []api.Item) { x.Kids[1].Type = ty(api.TyBool) }},
		{"an array without elements' type", "let a = [1]; print(a[0]);", api.ExIndex, func(x *api.Expr, l []api.Item) { x.Kids[0].Type.Elem = nil }},
		{"an array of too many", "let a = [(); 3]; a[0];", api.ExIndex, func(x *api.Expr, l []api.Item) { x.Kids[0].Type.N = math.MaxInt }},
		{"an array below none", "let a = [(); 3]; a[0];", api.ExIndex, func(x *api.Expr, l []api.Item) { x.Kids[0].Type.N = -1 }},
		{"a number that points", "let b = box(1); print(*b);", api.ExDeref, func(x *api.Expr, l []api.Item) { x.Kids[0].Type = ty(api.TyI32) }},
		{"a Box of nothing", "let b = box(1); print(*b);", api.ExDeref, func(x *api.Expr, l []api.Item) { x.Kids[0].Type.Elem = nil }},
		{"a Box of other words", "let b = Box::new([1, 2]); b[0];", api.ExDeref, func(x *api.Expr, l []api.Item) { x.Kids[0].Type.Elem = []api.Type{ty(api.TyU8)} }},
		{"a struct of too few", "P { a: 1, b: 2 };", api.ExStruct, func(x *api.Expr, l []api.Item) { x.Kids = x.Kids[:1] }},
		{"a struct's field of nobody", "P { a: 1, b: 2 };", api.ExInit, func(x *api.Expr, l []api.Item) { x.Num = 2 }},
		{"a struct's field below all", "P { a: 1, b: 2 };", api.ExInit, func(x *api.Expr, l []api.Item) { x.Num = math.MinInt }},
		{"a struct that is an enum", "O { x: 1 };", api.ExStruct, func(x *api.Expr, l []api.Item) { x.Type.Name = "T" }},
		{"a variant of nobody", "E::A(1);", api.ExVariant, func(x *api.Expr, l []api.Item) { x.Num = 4 }},
		{"a variant below all", "E::A(1);", api.ExVariant, func(x *api.Expr, l []api.Item) { x.Num = -1 }},
		{"a variant of too few", "E::A(1);", api.ExVariant, func(x *api.Expr, l []api.Item) { x.Kids = nil }},
		{"a variant that is a struct", "T::A;", api.ExVariant, func(x *api.Expr, l []api.Item) { x.Type.Name = "O" }},
		{"a Box of two", "Box::new(1);", api.ExVariant, func(x *api.Expr, l []api.Item) { x.Kids = append(x.Kids, x.Kids[0]) }},
		{"a Box that is none", "Box::new(1);", api.ExVariant, func(x *api.Expr, l []api.Item) { x.Type = ty(api.TyI32) }},
		{"an array of another number", "[1, 2];", api.ExArray, func(x *api.Expr, l []api.Item) { x.Type.N = 3 }},
		{"an array that is a number", "[1];", api.ExArray, func(x *api.Expr, l []api.Item) { x.Type = ty(api.TyI32) }},
		{"one too often", "[1; 128];", api.ExRepeat, func(x *api.Expr, l []api.Item) { x.Num = 129; x.Type.N = 129 }},
		{"one at all times", "[(); 1];", api.ExRepeat, func(x *api.Expr, l []api.Item) { x.Num = math.MaxInt; x.Type.N = math.MaxInt }},
		{"one below none", "[1; 1];", api.ExRepeat, func(x *api.Expr, l []api.Item) { x.Num = -1; x.Type.N = -1 }},
		{"a sign that is none", "1 + 1;", api.ExBin, func(x *api.Expr, l []api.Item) { x.Text = "?" }},
		{"a sum of bools", "true & true;", api.ExBin, func(x *api.Expr, l []api.Item) { x.Text = "+" }},
		{"a sum of Boxes", "1 + 1;", api.ExBin, func(x *api.Expr, l []api.Item) { x.Kids[0].Type = ty(api.TyBox, ty(api.TyI32)) }},
		{"a comparison of Boxes", "1 < 1;", api.ExBin, func(x *api.Expr, l []api.Item) { x.Kids[0].Type = ty(api.TyBox, ty(api.TyI32)) }},
		{"not of a Box", "!1;", api.ExNot, func(x *api.Expr, l []api.Item) { x.Type = ty(api.TyBox, ty(api.TyI32)) }},
		{"- of a bool", "-zero();", api.ExNeg, func(x *api.Expr, l []api.Item) { x.Type = ty(api.TyBool) }},
		{"a cast to a bool", "1 as u8;", api.ExCast, func(x *api.Expr, l []api.Item) { x.Ty = []api.Type{ty(api.TyBool)} }},
		{"a cast of a Box", "1 as u8;", api.ExCast, func(x *api.Expr, l []api.Item) { x.Kids[0].Type = ty(api.TyBox, ty(api.TyI32)) }},
		{"a cast to nothing", "1 as u8;", api.ExCast, func(x *api.Expr, l []api.Item) { x.Ty = nil }},
		{"a break of nothing", "loop { break; }", api.ExLoop, func(x *api.Expr, l []api.Item) { *x = x.Kids[0].Kids[0] }},
		{"a continue of nothing", "loop { continue; }", api.ExLoop, func(x *api.Expr, l []api.Item) { *x = x.Kids[0].Kids[0] }},
		{"a return of nothing", "return ();", api.ExReturn, func(x *api.Expr, l []api.Item) { l[0].Type = ty(api.TyI32); x.Kids = nil }},
		{"a return of another type", "return ();", api.ExReturn, func(x *api.Expr, l []api.Item) { l[0].Type = ty(api.TyI32) }},
		{"a condition that is a number", "if true {}", api.ExIf, func(x *api.Expr, l []api.Item) { x.Kids[0] = api.Expr{Kind: api.ExInt, Type: ty(api.TyI32)} }},
		{"an if of other words", "if true { 1 } else { 2 };", api.ExIf, func(x *api.Expr, l []api.Item) { x.Kids[2].Type = array }},
		{"a block without a value", "if true { 1 } else { 2 };", api.ExIf, func(x *api.Expr, l []api.Item) { x.Kids[1].Num = 0; x.Kids[1].Kids = nil }},
		{"a match of a Box", "match 1 { _ => {} }", api.ExMatch, func(x *api.Expr, l []api.Item) { x.Kids[0].Type = ty(api.TyUnit) }},
		{"a number for a bool", "match true { true => {}, _ => {} }", api.ExArm, func(x *api.Expr, l []api.Item) { x.Kids[0].Kind = api.PaInt }},
		{"a bool for a number", "match 1 { 1 => {}, _ => {} }", api.ExArm, func(x *api.Expr, l []api.Item) { x.Kids[0].Kind = api.PaBool }},
		{"a variant for a number", "match 1 { 1 => {}, _ => {} }", api.ExArm, func(x *api.Expr, l []api.Item) { x.Kids[0].Kind = api.PaVariant }},
		{"a pattern of nobody", "match T::A { T::A => {}, _ => {} }", api.PaVariant, func(x *api.Expr, l []api.Item) { x.Num = 3 }},
		{"a pattern below all", "match T::A { T::A => {}, _ => {} }", api.PaVariant, func(x *api.Expr, l []api.Item) { x.Num = -1 }},
		{"a pattern of too few", "match E::A(1) { E::A(n) => {}, _ => {} }", api.PaVariant, func(x *api.Expr, l []api.Item) { x.Kids = nil }},
		{"an assignment of other words", "let mut x = 1; x = 2;", api.ExAssign, func(x *api.Expr, l []api.Item) { x.Kids[1].Type = array }},
	} {
		text := inMain(c.body) + " fn see(n: &i32) {} fn one(n: i32) {}"
		l := typed(t, text)
		if _, e := build.Build(l); e != api.OK {
			t.Fatalf("%s: %s: %d before", c.what, c.body, int(e))
		}
		wantErrForm(t, c.what, change(t, text, c.kind, c.does))
	}
}

func TestWrongItems(t *testing.T) {
	text := "fn f(a: i32, b: P) -> P { b } fn main() { let p = f(1, P { a: 1, b: 2 }); } struct P { a: i32, b: u8 } enum E { A(P) } fn g(e: E) {}"
	for what, does := range map[string]func(l []api.Item){
		"a kind of item that is none": func(l []api.Item) { l[3].Kind = 5 },
		"no kind":                     func(l []api.Item) { l[2].Kind = 0 },
		"a kind below all":            func(l []api.Item) { l[2].Kind = math.MinInt },
		"two of one name":             func(l []api.Item) { l[0].Name = "main" },
		"a param of nobody's type":    func(l []api.Item) { l[0].Params[1].Type.Name = "Nobody" },
		"a param of too many words": func(l []api.Item) {
			l[0].Params[0].Type = api.Type{Kind: api.TyArray, N: 8, Elem: []api.Type{ty(api.TyU8)}}
		},
		"a param that is nothing":     func(l []api.Item) { l[0].Params[0].Type = api.Type{} },
		"an answer of too many words": func(l []api.Item) { l[4].Type = api.Type{Kind: api.TyArray, N: 9, Elem: []api.Type{ty(api.TyU8)}} },
		"an answer of other words":    func(l []api.Item) { l[0].Type = ty(api.TyI32) },
		"an answer that is nothing":   func(l []api.Item) { l[0].Type = api.Type{} },
		"a type that is not there":    func(l []api.Item) { l[2].Name = "R" },
		"a type of no end":            func(l []api.Item) { l[2].Params[0].Type = api.Type{Kind: api.TyNamed, Name: "P"} },
		"a type of too many words": func(l []api.Item) {
			l[3].Variants[0].Types[0] = api.Type{Kind: api.TyArray, N: 129, Elem: []api.Type{ty(api.TyU8)}}
		},
		"a body that is no block":      func(l []api.Item) { l[0].Body = l[0].Body.Kids[0] },
		"a body of another type":       func(l []api.Item) { l[0].Body.Type = ty(api.TyU8) },
		"a function that is not there": func(l []api.Item) { l[0].Kind = api.ItConst },
	} {
		l := typed(t, text)
		does(l)
		wantErrForm(t, what, l)
	}
}

// Trees and items changed by chance come to one of the two answers.
func TestChangedByChance(t *testing.T) {
	taken, refused := 0, 0
	for seed := range 2000 {
		chance := rand.New(rand.NewSource(int64(seed)))
		l := typed(t, program(int64(seed%50), 30))
		all := everyTree(l)
		for range 1 + chance.Intn(3) {
			changed(chance, all[chance.Intn(len(all))], all)
		}
		if wantAnswer(t, l) {
			taken++
		} else {
			refused++
		}
		model.Run(l, nil, 100)
	}
	if taken < 100 || refused < 100 {
		t.Error(taken, refused)
	}
}

// changed changes something of a tree.
func changed(chance *rand.Rand, x *api.Expr, all []*api.Expr) {
	numbers := []int{math.MinInt, -1, 0, 1, 2, 3, 7, 128, 1 << 16, math.MaxInt}
	other := *all[chance.Intn(len(all))]
	switch chance.Intn(9) {
	case 0:
		x.Kind = chance.Intn(37)
	case 1:
		x.Num = numbers[chance.Intn(len(numbers))]
	case 2:
		x.Text = other.Text
	case 3:
		x.Type = other.Type
	case 4:
		x.Type.Kind = chance.Intn(16)
	case 5:
		x.Type.N = numbers[chance.Intn(len(numbers))]
	case 6:
		if len(x.Kids) > 0 {
			x.Kids = slices.Delete(slices.Clone(x.Kids), 0, 1)
		}
	case 7:
		if len(other.Kids) == 0 {
			x.Kids = append(slices.Clone(x.Kids), other)
		}
	case 8:
		x.Ty = other.Ty
	}
}

// Trees that stand in one another as deep as a program can be, or are as many.
func TestGreatPrograms(t *testing.T) {
	number := api.Expr{Kind: api.ExInt, Type: ty(api.TyI32)}
	for _, kind := range []int{api.ExNeg, api.ExNot, api.ExBlock, api.ExCast, api.ExRepeat, api.ExCall, api.ExStmt, api.ExDeref} {
		x := number
		for range 60000 {
			x = api.Expr{Kind: kind, Kids: []api.Expr{x}, Type: ty(api.TyI32), Num: 1, Text: "f", Ty: []api.Type{ty(api.TyI32)}}
		}
		body := api.Expr{Kind: api.ExBlock, Kids: []api.Expr{{Kind: api.ExStmt, Kids: []api.Expr{x}, Type: ty(api.TyUnit)}}, Type: ty(api.TyUnit)}
		wantAnswer(t, []api.Item{{Kind: api.ItFunc, Name: "main", Type: ty(api.TyUnit), Body: body}, typed(t, "fn f(n: i32) -> i32 { n } fn main() {}")[0]})
	}
	deep := "print(1);"
	for k := range 50 {
		deep = "{ let b" + strconv.Itoa(k) + " = Box::new(1); " + deep + " }"
	}
	wantPrint(t, deep, 1)
	wantPrint(t, "let x = 1; print("+strings.Repeat("x + ", 15000)+"0);", 15000)
	wantPrint(t, "let x = true; if "+strings.Repeat("x && ", 10000)+"true { print(1); }", 1)
	wantPrint(t, strings.Repeat("let b = [1, 2, 3]; ", 3000)+"print(b[2]);", 3)
	wantPrint(t, "let mut x = 0; "+strings.Repeat("x = x + 1; ", 5000)+"print(x);", 5000)
	wantPrint(t, strings.Repeat("{ let a = [1; 128]; } ", 2500)+"print(1);", 1)
	wantRun(t, "fn main() { print(1); }"+functions(4000), nil, api.OutExit, 0, 1)
	// Values with many Boxes that are let go while an argument waits that borrows of one.
	wantPrint(t, "let mut s = [[box(1), box(2)], [box(3), box(4)]]; let a = [0]; print(look2(&*s[1][0], &a[{ "+strings.Repeat("s = [[box(5), box(6)], [box(7), box(8)]]; ", 500)+"0 }])); let d = deep(); print(look2(&*d[3][0][2], &a[{ d; 0 }])); } fn look2(x: &i32, y: &i32) -> i32 { *x } fn deep() -> Box<[Box<[Box<[Box<i32>; 4]>; 2]>; 4]> { Box::new(["+times(4, "Box::new(["+times(2, "Box::new(["+times(4, "box(4)")+"])")+"])")+"])", 3, 4)
	var boxes strings.Builder
	for k := range 1000 {
		boxes.WriteString("let b" + strconv.Itoa(k+1) + " = Box::new(b" + strconv.Itoa(k) + "); ")
	}
	l := taken(t, "fn main() { let b0 = 1; print(1); "+boxes.String()+"}")
	if o, _ := mir.Run(l, built(t, l), nil, plenty); !alike(o, api.Outcome{Kind: api.OutMemory, Print: []int{1}}) {
		t.Error(o)
	}
}

// functions are so many.
func functions(n int) string {
	var all strings.Builder
	for k := range n {
		all.WriteString("fn f" + strconv.Itoa(k) + "() {}")
	}
	return all.String()
}

// Types that stand in themselves, as lists can be shared, come to an answer.
func TestSharedTypes(t *testing.T) {
	loop := ty(api.TyBox, ty(api.TyI32))
	loop.Elem[0] = loop
	for _, kind := range []int{api.ExLet, api.ExVar, api.ExVariant} {
		l := change(t, inMain("let b = box(1); let mut c = Box::new(1); c = b; c;"), kind, func(x *api.Expr, l []api.Item) { x.Type = loop; x.Ty = []api.Type{loop} })
		wantAnswer(t, l)
	}
}
