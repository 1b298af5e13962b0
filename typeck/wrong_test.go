package typeck

import (
	"math"
	"math/rand"
	"reflect"
	"slices"
	"testing"

	"ferrule/api"
	"ferrule/parse"
)

// good is a program that nothing is against, with each kind of tree, statement and pattern in it, in several places.
const good = `fn main() { let mut x: u8 = 1 + 2 * { 3 }; x = x; let b = Box::new(-5); print(*b); while x < 9 { x = x + 1; if x == 5 { continue; } }
loop { if !true || false { break; } else if x > 1 { return; } else { break; } } let mut p = P { a: x, b: -(1 + 2) }; p.a = { let l = [1u8, 2, 3]; l[one(2)] }; look(&p); change(&mut p, replace(&mut p.b, 7) as u8);
match E::B(p, true) { E::B(q, _) => { print(q.a); }, E::A(n) => {}, _ => () } let y = match x { 1 => true, 2 => false, _ => { return; } }; let a: [[i8; 2]; 3] = [[1; 2]; 3];
print(a[0][1u8] << 2); let u = U {}; let z = if y { unbox(Box::new(())) } else { zero() }; match y { true => {}, false => {} } read(); K == 1; }
fn f(r: &mut Q, s: &P, mut n: u16) -> Box<E> { look(s); change(&mut r.p, 1); r.l[n] = n; replace(r, Q { p: P { a: 1, b: 2 }, l: [0; 3], k: Box::new(*s) }); look(&*r.k); boxed(&r.k); Box::new(E::C(Box::new(E::N))) }`

func goodItems(t *testing.T) []api.Item {
	t.Helper()
	l := mustParse(t, good+others)
	if _, at, e := Check(l); e != api.OK {
		t.Fatalf("the good program: %d at %d: %.30s", int(e), at, (good + others)[at:])
	}
	return l
}

// everyTree tells each tree of a program's functions, to be changed there.
func everyTree(l []api.Item) []*api.Expr {
	var all []*api.Expr
	var into func(x *api.Expr)
	into = func(x *api.Expr) {
		all = append(all, x)
		for k := range x.Kids {
			into(&x.Kids[k])
		}
	}
	for k := range l {
		if l[k].Kind == api.ItFunc {
			into(&l[k].Body)
		}
	}
	return all
}

// copied is a program in memory of its own.
func copied(l []api.Item) []api.Item {
	out := slices.Clone(l)
	for k := range out {
		out[k].Params = slices.Clone(out[k].Params)
		out[k].Variants = slices.Clone(out[k].Variants)
		out[k].Body = copiedTree(out[k].Body)
	}
	return out
}

func copiedTree(x api.Expr) api.Expr {
	x.Kids = slices.Clone(x.Kids)
	x.Ty = slices.Clone(x.Ty)
	for k := range x.Kids {
		x.Kids[k] = copiedTree(x.Kids[k])
	}
	return x
}

func TestGoodHasAll(t *testing.T) {
	seen := map[int]int{}
	for _, x := range everyTree(goodItems(t)) {
		seen[x.Kind]++
	}
	for kind, name := range kindNames {
		if seen[kind] == 0 {
			t.Errorf("the good program has no %s", name)
		}
	}
}

// kidsOf tells how many kids parse gives a kind of tree: at least and at most; below 0: any number.
func kidsOf(kind int) (least, most int) {
	switch kind {
	case api.ExInt, api.ExBool, api.ExUnit, api.ExVar, api.PaInt, api.PaBool, api.PaAny, api.PaBind, api.ExBreak, api.ExNext:
		return 0, 0
	case api.ExCall, api.ExStruct, api.ExVariant, api.ExArray, api.ExBlock, api.PaVariant:
		return 0, -1
	case api.ExMatch:
		return 1, -1
	case api.ExReturn:
		return 0, 1
	case api.ExIf:
		return 2, 3
	case api.ExBin, api.ExIndex, api.ExArm, api.ExWhile, api.ExAssign:
		return 2, 2
	}
	return 1, 1
}

// TestOtherForms: each tree of a good program is given another Kind, too few and too many kids.
func TestOtherForms(t *testing.T) {
	l := goodItems(t)
	for n := range everyTree(l) {
		changed := func(change func(x *api.Expr)) ([]api.Item, string) {
			other := copied(l)
			x := everyTree(other)[n]
			was := tellTree(*x)
			change(x)
			return other, was
		}
		for _, kind := range []int{0, -1, 36, 99, 35 + 256, math.MinInt, math.MaxInt} {
			other, was := changed(func(x *api.Expr) { x.Kind = kind })
			wantFault(t, other, was, 0, api.ErrForm)
		}
		least, most := kidsOf(everyTree(l)[n].Kind)
		for k := range least {
			other, was := changed(func(x *api.Expr) { x.Kids = x.Kids[:k] })
			wantFault(t, other, was, 0, api.ErrForm)
		}
		for k := most + 1; most >= 0 && k < most+4; k++ {
			other, was := changed(func(x *api.Expr) {
				for len(x.Kids) < k {
					x.Kids = append(x.Kids, api.Expr{Kind: api.ExUnit})
				}
			})
			wantFault(t, other, was, 0, api.ErrForm)
		}
	}
}

// TestOtherKindsOfKids: what stands where parse tells another kind of tree alone.
func TestOtherKindsOfKids(t *testing.T) {
	wrong := func(text string, change func(main *api.Expr)) {
		t.Helper()
		l := mustParse(t, inMain(text))
		change(&l[0].Body)
		wantFault(t, l, text, 0, api.ErrForm)
	}
	unit, number := api.Expr{Kind: api.ExUnit}, api.Expr{Kind: api.ExInt, Num: 1}
	for kind := range 40 {
		if kind != api.ExBlock {
			body := api.Expr{Kind: kind, Kids: []api.Expr{unit, unit}}
			wrong("", func(x *api.Expr) { *x = body })
			wrong("while true {}", func(x *api.Expr) { x.Kids[0].Kids[1] = body })
			wrong("loop {}", func(x *api.Expr) { x.Kids[0].Kids[0] = body })
			wrong("if true {} else {}", func(x *api.Expr) { x.Kids[0].Kids[1] = body })
		}
		if kind != api.ExBlock && kind != api.ExIf {
			wrong("if true {} else {}", func(x *api.Expr) { x.Kids[0].Kids[2].Kind = kind })
		}
		if kind != api.ExArm {
			wrong("match 1 { _ => {} }", func(x *api.Expr) { x.Kids[0].Kids[1].Kind = kind })
		}
		if kind < api.PaInt || kind > api.PaVariant {
			wrong("match 1 { _ => {} }", func(x *api.Expr) { x.Kids[0].Kids[1].Kids[0] = api.Expr{Kind: kind, Text: "x", Kids: []api.Expr{unit}} })
		}
		if kind != api.PaBind {
			wrong("match E::N { E::A(x) => {}, _ => {} }", func(x *api.Expr) { x.Kids[0].Kids[1].Kids[0].Kids[0].Kind = kind })
		}
		if kind != api.ExInit {
			wrong("P { a: 1, b: 2 };", func(x *api.Expr) { x.Kids[0].Kids[0].Kids[1].Kind = kind })
		}
		if kind < api.ExWhile || kind > api.ExStmt {
			wrong("print(1); ();", func(x *api.Expr) { x.Kids[1] = api.Expr{Kind: kind, Kids: []api.Expr{number}} })
		}
		if isStatement := kind >= api.ExArm || kind == api.ExInit || kind == 0; isStatement {
			tree := api.Expr{Kind: kind, Kids: []api.Expr{unit}}
			for _, text := range []string{"();", "let x = ();", "return ();"} {
				wrong(text, func(x *api.Expr) { x.Kids[0].Kids[0] = tree })
			}
			wrong("()", func(x *api.Expr) { x.Kids[0] = tree })
			wrong("1 + 2;", func(x *api.Expr) { x.Kids[0].Kids[0].Kids[1] = tree })
			wrong("look(&x);", func(x *api.Expr) { x.Kids[0].Kids[0].Kids[0] = tree })
			wrong("look(&x);", func(x *api.Expr) { x.Kids[0].Kids[0].Kids[0].Kids[0] = tree })
			wrong("*x;", func(x *api.Expr) { x.Kids[0].Kids[0].Kids[0] = tree })
			wrong("x = 1;", func(x *api.Expr) { x.Kids[0].Kids[0] = tree })
		}
	}
}

// TestOtherFields: Num, Text and Ty that parse does not tell.
func TestOtherFields(t *testing.T) {
	wrong := func(text string, change func(main *api.Expr)) {
		t.Helper()
		l := mustParse(t, inMain(text))
		change(&l[0].Body)
		wantFault(t, l, text, 0, api.ErrForm)
	}
	for _, n := range []int{2, -1, 3, math.MinInt, math.MaxInt} {
		wrong("1;", func(x *api.Expr) { x.Num = n })
		wrong("true;", func(x *api.Expr) { x.Kids[0].Kids[0].Num = n })
		wrong("let x = 1;", func(x *api.Expr) { x.Kids[0].Num = n })
		wrong("let p = "+makeP+"; look(&p);", func(x *api.Expr) { x.Kids[1].Kids[0].Kids[0].Num = n })
		wrong("match true { true => {}, _ => {} }", func(x *api.Expr) { x.Kids[0].Kids[1].Kids[0].Num = n })
		if n < 0 {
			wrong("[1; 2];", func(x *api.Expr) { x.Kids[0].Kids[0].Num = n })
		}
	}
	wrong("", func(x *api.Expr) { x.Num = 1 })
	for _, text := range []string{"x", "bool", "u64", "i", " u8", "u8 "} {
		wrong("1;", func(x *api.Expr) { x.Kids[0].Kids[0].Text = text })
		wrong("-1;", func(x *api.Expr) { x.Kids[0].Kids[0].Kids[0].Text = text })
	}
	for _, text := range []string{"", "x", "=", "++", "->", "::", "!", " +"} {
		wrong("1 + 2;", func(x *api.Expr) { x.Kids[0].Kids[0].Text = text })
	}
	u8 := api.Type{Kind: api.TyU8}
	for _, list := range [][]api.Type{nil, {}, {u8, u8}, {{Kind: api.TyU8, N: 1}}, {{Kind: api.TyU8, Name: "x"}}, {{Kind: api.TyU8, Elem: []api.Type{u8}}}} {
		wrong("1 as u8;", func(x *api.Expr) { x.Kids[0].Kids[0].Ty = list })
		if len(list) > 0 {
			wrong("let x: u8 = 1;", func(x *api.Expr) { x.Kids[0].Ty = list })
		}
	}
	for _, odd := range []api.Type{{Kind: api.TyArray, N: 1, Elem: []api.Type{u8, u8}}, {Kind: api.TyBox, Elem: []api.Type{u8}, N: 1}, {Kind: api.TyBox, Elem: []api.Type{{Kind: api.TyUnit, Name: "x"}}}, {Kind: api.TyNamed, Name: "P", Elem: []api.Type{u8}}, {Kind: api.TyNamed, Name: "P", N: 7}} {
		wrong("let x: u8 = 1;", func(x *api.Expr) { x.Kids[0].Ty = []api.Type{odd} })
		l := mustParse(t, inMain(""))
		for _, it := range []api.Item{{Kind: api.ItStruct, Name: "New", Params: []api.Param{{Name: "a", Type: u8}, {Name: "b", Type: odd}}}, {Kind: api.ItEnum, Name: "New", Variants: []api.Variant{{Name: "A"}, {Name: "B", Types: []api.Type{u8, odd}}}},
			{Kind: api.ItFunc, Name: "New", Params: []api.Param{{Name: "a", Type: odd}}, Type: u8, Body: api.Expr{Kind: api.ExBlock}}, {Kind: api.ItFunc, Name: "New", Type: odd, Body: api.Expr{Kind: api.ExBlock}}} {
			wantFault(t, append(slices.Clone(l), it), "an odd type", 0, api.ErrForm)
		}
	}
	// What names.Type refuses is told at the let, of whatever kind it is.
	for _, kind := range []int{0, -1, api.TyNever, 99, api.TyArray, api.TyBox} {
		l := mustParse(t, inMain("let x = 1;"))
		l[0].Body.Kids[0].Ty = []api.Type{{Kind: kind}}
		wantFault(t, l, "a let", 12, api.ErrForm)
	}
	// Where a field has no meaning, what stands in it is not told.
	l := mustParse(t, inMain("let x = true; x; 1 + 2; zero();"))
	plain, _, _ := Check(l)
	for _, x := range everyTree(l) {
		x.Type = api.Type{Kind: api.TyBox, Elem: []api.Type{u8}}
		if x.Kind == api.ExVar || x.Kind == api.ExCall || x.Kind == api.ExBin {
			x.Num, x.Ty = 77, []api.Type{u8}
		}
	}
	other, at, e := Check(l)
	if e != api.OK || at != 0 || tellAll(plain) != tellAll(other) {
		t.Errorf("%d at %d: %.500s", int(e), at, tellAll(other))
	}
}

// TestSharedTrees: trees that share their memory are more than can be gone over, but there is an answer.
func TestSharedTrees(t *testing.T) {
	x := api.Expr{Kind: api.ExInt, Num: 1}
	for range 100 {
		x = api.Expr{Kind: api.ExBin, Text: "+", Kids: []api.Expr{x, x}}
	}
	l := mustParse(t, "fn main() {}")
	l[0].Body.Kids = []api.Expr{{Kind: api.ExStmt, Kids: []api.Expr{x}}}
	wantFault(t, l, "a great sum", 0, api.ErrForm)
	odd := api.Type{Kind: api.TyU8}
	for range 100 {
		odd = api.Type{Kind: api.TyBox, Elem: []api.Type{odd, odd}}
	}
	l = mustParse(t, "fn main() {} fn f(x: u8, y: u8) { x == y; }")
	l[1].Params[0].Type, l[1].Params[1].Type = odd, odd
	wantFault(t, l, "great types", 0, api.ErrForm)
}

// TestDeepTrees: as deep as the bound lets a tree be, of each kind that can be so deep.
func TestDeepTrees(t *testing.T) {
	wraps := map[string]func(x api.Expr) api.Expr{
		"neg": func(x api.Expr) api.Expr { return api.Expr{Kind: api.ExNeg, Kids: []api.Expr{x}} },
		"bin": func(x api.Expr) api.Expr {
			return api.Expr{Kind: api.ExBin, Text: "+", Kids: []api.Expr{x, {Kind: api.ExInt}}}
		},
		"second": func(x api.Expr) api.Expr {
			return api.Expr{Kind: api.ExBin, Text: "*", Kids: []api.Expr{{Kind: api.ExInt}, x}}
		},
		"block": func(x api.Expr) api.Expr { return api.Expr{Kind: api.ExBlock, Num: 1, Kids: []api.Expr{x}} },
		"stmt": func(x api.Expr) api.Expr {
			return api.Expr{Kind: api.ExBlock, Kids: []api.Expr{{Kind: api.ExStmt, Kids: []api.Expr{x}}}}
		},
		"let": func(x api.Expr) api.Expr {
			return api.Expr{Kind: api.ExBlock, Kids: []api.Expr{{Kind: api.ExLet, Text: "x", Kids: []api.Expr{x}}}}
		},
		"match": func(x api.Expr) api.Expr {
			return api.Expr{Kind: api.ExMatch, Kids: []api.Expr{x, {Kind: api.ExArm, Kids: []api.Expr{{Kind: api.PaAny}, {Kind: api.ExInt}}}}}
		},
		"arm": func(x api.Expr) api.Expr {
			return api.Expr{Kind: api.ExMatch, Kids: []api.Expr{{Kind: api.ExInt}, {Kind: api.ExArm, Kids: []api.Expr{{Kind: api.PaAny}, x}}}}
		},
		"deref":   func(x api.Expr) api.Expr { return api.Expr{Kind: api.ExDeref, Kids: []api.Expr{x}} },
		"field":   func(x api.Expr) api.Expr { return api.Expr{Kind: api.ExField, Text: "a", Kids: []api.Expr{x}} },
		"index":   func(x api.Expr) api.Expr { return api.Expr{Kind: api.ExIndex, Kids: []api.Expr{x, {Kind: api.ExInt}}} },
		"call":    func(x api.Expr) api.Expr { return api.Expr{Kind: api.ExCall, Text: "print", Kids: []api.Expr{x}} },
		"box":     func(x api.Expr) api.Expr { return api.Expr{Kind: api.ExVariant, Text: "Box::new", Kids: []api.Expr{x}} },
		"array":   func(x api.Expr) api.Expr { return api.Expr{Kind: api.ExArray, Kids: []api.Expr{x}} },
		"unknown": func(x api.Expr) api.Expr { return api.Expr{Kind: api.ExBorrow, Kids: []api.Expr{x}} },
	}
	for name, wrap := range wraps {
		for _, deep := range []int{1000, 1 << 16} {
			x := api.Expr{Kind: api.ExInt, Num: 1}
			for range deep {
				x = wrap(x)
			}
			l := mustParse(t, "fn main() {}")
			l[0].Body.Kids = []api.Expr{{Kind: api.ExStmt, Kids: []api.Expr{x}}}
			told, at, e := Check(l)
			if (e == api.OK) != (len(told) == 1) || at != 0 {
				t.Error(name, deep, at, int(e))
			}
		}
	}
	deep := api.Type{Kind: api.TyU8}
	for range 1 << 16 {
		deep = api.Type{Kind: api.TyBox, Elem: []api.Type{deep}}
	}
	l := mustParse(t, "fn main() {} fn f(x: u8, y: u8) { x; let z: u8 = y; }")
	l[1].Params[0].Type, l[1].Params[1].Type, l[1].Body.Kids[1].Ty[0] = deep, deep, deep
	if _, at, e := Check(l); e != api.OK || at != 0 {
		t.Error(at, int(e))
	}
}

// TestChangedByChance: programs with anything changed anywhere come to an answer, and nothing of them is changed by it.
func TestChangedByChance(t *testing.T) {
	l := goodItems(t)
	seen := map[api.Errno]int{}
	for seed := range 5000 {
		make := func() []api.Item {
			chance := rand.New(rand.NewSource(int64(seed)))
			other := copied(l)
			for range 1 + chance.Intn(3) {
				changeOne(chance, other)
			}
			return other
		}
		other := make()
		told, at, e := Check(other)
		seen[e]++
		again, at2, e2 := Check(other)
		if at != at2 || e != e2 || tellAll(told) != tellAll(again) {
			t.Fatal("seed", seed, "another answer")
		}
		if e != api.OK && len(told) > 0 {
			t.Fatal("seed", seed, "items beside an error")
		}
		if !reflect.DeepEqual(other, make()) {
			t.Fatal("seed", seed, "changed what was handed in")
		}
	}
	for _, e := range []api.Errno{api.OK, api.ErrForm, api.ErrName, api.ErrType, api.ErrCount, api.ErrPlace, api.ErrMutable, api.ErrBorrow, api.ErrRange, api.ErrLoop, api.ErrMatch} {
		if seen[e] < 2 {
			t.Errorf("%d only %d times", int(e), seen[e])
		}
	}
}

// changeOne changes one thing of one tree.
func changeOne(chance *rand.Rand, l []api.Item) {
	all := everyTree(l)
	x, y := all[chance.Intn(len(all))], all[chance.Intn(len(all))]
	switch chance.Intn(9) {
	case 0:
		x.Kind = chance.Intn(37)
	case 1:
		x.Num = []int{0, 1, -1, 2, 255, 256, -129, math.MaxInt, math.MinInt, 1 << 31}[chance.Intn(10)]
	case 2:
		x.Text = y.Text
	case 3:
		x.Text = []string{"", "nobody", "x", "i8", "::", "_", "Box::new", "E::A", "+", "&&", "print", "replace", "a", "K"}[chance.Intn(14)]
	case 4:
		*x = copiedTree(*y)
	case 5:
		x.Kids = copiedTree(*y).Kids
	case 6:
		if len(x.Kids) > 0 {
			x.Kids = x.Kids[:chance.Intn(len(x.Kids))]
		}
	case 7:
		x.Kids = append(x.Kids, copiedTree(*y))
	case 8:
		x.Ty = append(slices.Clone(y.Ty), api.Type{Kind: chance.Intn(16)})[chance.Intn(len(y.Ty)+1):]
	}
}

// TestTextsByChance: of texts that are cut and put together anew, those that parse takes come to an answer, too.
func TestTextsByChance(t *testing.T) {
	pieces := []string{"let x = 1;", "let mut y: u8 = 2;", "x", "y", "= 3;", "{", "}", "if x == 1 {", "} else {", "match y {", "1 => 2,", "_ => 3", "true => false,", "loop {", "while x < 2 {", "break;", "continue;", "return;", "return 1;", "print(x);", "print(", ")", ";", "*", "&mut ", "&", "-", "!", "+", "<", "&&", "P { a: 1, b: 2 }", ".a", "[0]", "[1, 2]", "[x; 2]", "Box::new(", "unbox(", "E::A(1)", "E::N", "K", "as u8", "replace(", ",", "5", "300u8", "()"}
	taken := 0
	for seed := range 15000 {
		chance := rand.New(rand.NewSource(int64(seed)))
		body := ""
		for range 1 + chance.Intn(9) {
			body += pieces[chance.Intn(len(pieces))] + " "
		}
		l, _, e := parse.Parse(inMain(body))
		if e != api.OK {
			continue
		}
		told, _, e := Check(l)
		if e != api.OK {
			continue
		}
		taken++
		wantAgain(t, l, told)
		wantSound(t, l, told)
	}
	if taken < 20 {
		t.Error("only", taken, "taken")
	}
}
