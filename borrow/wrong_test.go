package borrow

import (
	"math"
	"math/rand"
	"reflect"
	"slices"
	"strings"
	"testing"

	"ferrule/api"
	"ferrule/parse"
)

// good is a program that nothing is against, with each kind of tree, statement and pattern in it.
const good = `fn main() { let mut x: i32 = 1 + 2 * { 3 }; x = x; let mut b = give(); print(*b); while x < 9 { x = x + 1; if x == 5 { continue; } }
loop { if !yes() || false { break; } else if x > 1 { eat(b); return; } else { break; } } let mut p = P { a: x, b: -(x + 2) }; p.a = { let l = [1, 2, 3]; l[see(&x)] }; see(&p.a); mi(&mut x, replace(&mut p.b, 7) as i32);
match E::B(x, b) { E::B(n, _) => { print(n); }, E::A(d) => { d; }, _ => () } let y = match x { 1 => true, -2 => false, _ => { return; } }; let a: [[i8; 2]; 3] = [[1; 2]; 3]; print(a[0][1u8] << 2); match y { true => {}, false => {} } read(); ONE == 1; }
fn f(r: &mut Q, s: &Q, mut n: i32) -> Box<i32> { looked(s); set(&mut r.p.a); r.l[n] = n; let old = replace(r, q()); see(&*r.k); unbox(Box::new(())); give() }`

func goodItems(t *testing.T) []api.Item {
	t.Helper()
	l := typed(t, good+others)
	wantFault(t, l, "the good program", 0, api.OK)
	return l
}

// TestNoItems: without functions nothing is wrong.
func TestNoItems(t *testing.T) {
	wantFault(t, nil, "nil", 0, api.OK)
	wantFault(t, []api.Item{}, "no items", 0, api.OK)
	wantFault(t, typed(t, "fn main() {} struct S { a: u8 } const K: u8 = 1; enum E { A }")[1:], "no functions", 0, api.OK)
}

// TestOtherItems: what is no function is not gone through, whatever stands in it.
func TestOtherItems(t *testing.T) {
	bodies := []api.Expr{{Kind: api.ExIndex}, {Kind: api.ExCall, Kids: []api.Expr{{Kind: api.ExBorrow}}}, *bodyOf(typed(t, inMain(start+"b; b;")), "main")}
	for _, kind := range []int{api.ItStruct, api.ItEnum, api.ItConst, 0, -1, 99} {
		for _, body := range bodies {
			wantFault(t, append(typed(t, "fn main() {}"), api.Item{Kind: kind, Name: "f", Body: body}), "another item", 0, api.OK)
		}
	}
}

// TestUntyped: items that parse tells have no types yet.
func TestUntyped(t *testing.T) {
	for _, text := range []string{"fn main() {}", "fn main() { 1 }", good + others, "fn main() { nobody(); }"} {
		l, _, e := parse.Parse(text)
		if e != api.OK {
			t.Fatal(text)
		}
		wantFault(t, l, text, 0, api.ErrForm)
	}
	wantFault(t, []api.Item{{Kind: api.ItFunc}}, "no body", 0, api.ErrForm)
	wantFault(t, append(typed(t, "fn main() {}"), api.Item{Kind: api.ItFunc, Name: "f"}), "one without a body", 0, api.ErrForm)
}

// kidsOf tells how many kids trees of a kind have: at least and at most; below 0: any number.
func kidsOf(kind int) (least, most int) {
	switch kind {
	case api.ExCall, api.ExStruct, api.ExVariant, api.ExArray, api.ExBlock, api.PaVariant:
		return 0, -1
	case api.ExMatch:
		return 1, -1
	case api.ExReturn:
		return 0, 1
	case api.ExIf:
		return 2, 3
	case api.ExBin, api.ExIndex, api.ExArm, api.ExWhile, api.ExAssign:
		return 2, 2
	case api.ExNeg, api.ExNot, api.ExDeref, api.ExBorrow, api.ExCast, api.ExField, api.ExInit, api.ExRepeat, api.ExLoop, api.ExLet, api.ExStmt:
		return 1, 1
	}
	return 0, 0
}

// TestOtherForms: each tree of a good program is given another Kind, too few and too many kids, and no type.
func TestOtherForms(t *testing.T) {
	l := goodItems(t)
	all := everyTree(l)
	kinds := map[int]bool{}
	for _, x := range all {
		kinds[x.Kind] = true
		was := *x
		wrong := func(change func()) {
			change()
			wantFault(t, l, "a changed tree", 0, api.ErrForm)
			*x = was
		}
		for _, kind := range []int{0, -1, 36, 99, 35 + 256, math.MinInt, math.MaxInt} {
			wrong(func() { x.Kind = kind })
			if kind <= 0 || kind > 36 {
				wrong(func() { x.Type.Kind = kind })
			}
		}
		wrong(func() { x.Type = api.Type{} })
		least, most := kidsOf(x.Kind)
		for k := range least {
			wrong(func() { x.Kids = x.Kids[:k] })
		}
		for k := most + 1; most >= 0 && k < most+4; k++ {
			wrong(func() {
				x.Kids = slices.Clone(x.Kids)
				for len(x.Kids) < k {
					x.Kids = append(x.Kids, api.Expr{Kind: api.ExUnit, Type: api.Type{Kind: api.TyUnit}})
				}
			})
		}
	}
	for kind := api.ExInt; kind <= api.ExStmt; kind++ {
		if !kinds[kind] {
			t.Error("the good program has no", kind)
		}
	}
	wantFault(t, l, "as it was", 0, api.OK)
}

// TestOtherKindsOfKids: what stands where typeck tells other kinds of trees alone.
func TestOtherKindsOfKids(t *testing.T) {
	unit := api.Type{Kind: api.TyUnit}
	kid := api.Expr{Kind: api.ExVar, Type: unit}
	isValue := func(kind int) bool {
		return kind >= api.ExInt && kind <= api.ExMatch && kind != api.ExBorrow && kind != api.ExInit
	}
	isPlace := func(kind int) bool {
		return kind == api.ExVar || kind == api.ExField || kind == api.ExIndex || kind == api.ExDeref
	}
	is := func(kinds ...int) func(kind int) bool {
		return func(kind int) bool { return slices.Contains(kinds, kind) }
	}
	isStatement := func(kind int) bool { return kind >= api.ExWhile && kind <= api.ExStmt }
	for _, c := range []struct {
		text string
		tree func(main *api.Expr) *api.Expr // what is put in the place of which
		may  func(kind int) bool
	}{
		{"();", func(x *api.Expr) *api.Expr { return &x.Kids[0] }, isStatement},
		{"();", func(x *api.Expr) *api.Expr { return &x.Kids[0].Kids[0] }, isValue},
		{"()", func(x *api.Expr) *api.Expr { return &x.Kids[0] }, isValue},
		{"let u = ();", func(x *api.Expr) *api.Expr { return &x.Kids[0].Kids[0] }, isValue},
		{"return ();", func(x *api.Expr) *api.Expr { return &x.Kids[0].Kids[0] }, isValue},
		{"while true {}", func(x *api.Expr) *api.Expr { return &x.Kids[0].Kids[0] }, isValue},
		{"while true {}", func(x *api.Expr) *api.Expr { return &x.Kids[0].Kids[1] }, is(api.ExBlock)},
		{"loop {}", func(x *api.Expr) *api.Expr { return &x.Kids[0].Kids[0] }, is(api.ExBlock)},
		{"if true {} else {};", func(x *api.Expr) *api.Expr { return &x.Kids[0].Kids[0].Kids[0] }, isValue},
		{"if true {} else {};", func(x *api.Expr) *api.Expr { return &x.Kids[0].Kids[0].Kids[1] }, is(api.ExBlock)},
		{"if true {} else {};", func(x *api.Expr) *api.Expr { return &x.Kids[0].Kids[0].Kids[2] }, is(api.ExBlock, api.ExIf)},
		{"match 1 { _ => {} };", func(x *api.Expr) *api.Expr { return &x.Kids[0].Kids[0].Kids[0] }, isValue},
		{"match 1 { _ => {} };", func(x *api.Expr) *api.Expr { return &x.Kids[0].Kids[0].Kids[1] }, is(api.ExArm)},
		{"match 1 { _ => {} };", func(x *api.Expr) *api.Expr { return &x.Kids[0].Kids[0].Kids[1].Kids[0] }, is(api.PaInt, api.PaBool, api.PaAny, api.PaVariant)},
		{"match 1 { _ => {} };", func(x *api.Expr) *api.Expr { return &x.Kids[0].Kids[0].Kids[1].Kids[1] }, isValue},
		{"match E::N { E::A(x) => {}, _ => {} };", func(x *api.Expr) *api.Expr { return &x.Kids[0].Kids[0].Kids[1].Kids[0].Kids[0] }, is(api.PaBind)},
		{"P { a: 1, b: 2 };", func(x *api.Expr) *api.Expr { return &x.Kids[0].Kids[0].Kids[1] }, is(api.ExInit)},
		{"P { a: 1, b: 2 };", func(x *api.Expr) *api.Expr { return &x.Kids[0].Kids[0].Kids[1].Kids[0] }, isValue},
		{"print(1);", func(x *api.Expr) *api.Expr { return &x.Kids[0].Kids[0].Kids[0] }, func(kind int) bool { return isValue(kind) || kind == api.ExBorrow }},
		{"let x = 1; see(&x);", func(x *api.Expr) *api.Expr { return &x.Kids[1].Kids[0].Kids[0].Kids[0] }, isPlace},
		{"let b = give(); *b;", func(x *api.Expr) *api.Expr { return &x.Kids[1].Kids[0].Kids[0] }, isPlace},
		{"let b = P { a: 1, b: 2 }; b.a;", func(x *api.Expr) *api.Expr { return &x.Kids[1].Kids[0].Kids[0] }, isPlace},
		{"let b = [1, 2]; b[0];", func(x *api.Expr) *api.Expr { return &x.Kids[1].Kids[0].Kids[0] }, isPlace},
		{"let b = [1, 2]; b[0];", func(x *api.Expr) *api.Expr { return &x.Kids[1].Kids[0].Kids[1] }, isValue},
		{"let mut b = 1; b = 2;", func(x *api.Expr) *api.Expr { return &x.Kids[1].Kids[0] }, isPlace},
		{"let mut b = 1; b = 2;", func(x *api.Expr) *api.Expr { return &x.Kids[1].Kids[1] }, isValue},
		{"1 + 2;", func(x *api.Expr) *api.Expr { return &x.Kids[0].Kids[0].Kids[1] }, isValue},
		{"Box::new([-read(); 2]);", func(x *api.Expr) *api.Expr { return &x.Kids[0].Kids[0].Kids[0].Kids[0].Kids[0] }, isValue},
		{"", func(x *api.Expr) *api.Expr { return x }, is(api.ExBlock)},
	} {
		for kind := range 40 {
			l := typed(t, inMain(c.text))
			x := c.tree(bodyOf(l, "main"))
			least, _ := kidsOf(kind)
			*x = api.Expr{Kind: kind, Type: unit, Kids: []api.Expr{kid, kid, kid}[:least]}
			_, e := Check(l)
			if may := c.may(kind); may && e == api.ErrForm && (least == 0 || isPlace(kind) || kind == api.ExBorrow || kind == api.ExNeg) || !may && e != api.ErrForm {
				t.Errorf("%s with a tree of %d: %d", c.text, kind, int(e))
			}
		}
	}
	// A block without anything has no value.
	l := typed(t, "fn main() {}")
	l[0].Body.Num = 1
	wantFault(t, l, "a block's value", 0, api.ErrForm)
}

// TestFarInwards: what is wrong in the midst of a great program is seen, too.
func TestFarInwards(t *testing.T) {
	text := "print(1);"
	for range 20 {
		text = "if true { " + text + " } else { loop { break; } }"
	}
	l := typed(t, inMain(text))
	wantFault(t, l, text, 0, api.OK)
	for _, x := range everyTree(l) {
		was := *x
		x.Type = api.Type{}
		wantFault(t, l, text, 0, api.ErrForm)
		*x = was
	}
}

// TestOutsideLoops: a break or continue that no loop is around goes on nowhere.
func TestOutsideLoops(t *testing.T) {
	for _, kind := range []int{api.ExBreak, api.ExNext} {
		l := typed(t, inMain(start+"b; return; b;"))
		kids := bodyOf(l, "main").Kids
		kids[len(kids)-2].Kind = kind
		wantFault(t, l, "a stray break", 0, api.OK)
	}
}

// TestSharedTrees: trees that share their memory are more than can be gone over, but there is an answer.
func TestSharedTrees(t *testing.T) {
	i32 := api.Type{Kind: api.TyI32}
	sum := api.Expr{Kind: api.ExInt, Type: i32}
	for range 100 {
		sum = api.Expr{Kind: api.ExBin, Text: "+", Type: i32, Kids: []api.Expr{sum, sum}}
	}
	deref := api.Expr{Kind: api.ExVar, Type: i32}
	for range 1 << 14 {
		deref = api.Expr{Kind: api.ExDeref, Type: i32, Kids: []api.Expr{deref}}
	}
	list := api.Expr{Kind: api.ExArray, Type: i32, Kids: slices.Repeat([]api.Expr{deref}, 1<<14)}
	for _, x := range []api.Expr{sum, list} {
		l := typed(t, "fn main() { (); }")
		l[0].Body.Kids[0].Kids[0] = x
		wantFault(t, l, "a great tree", 0, api.ErrForm)
	}
}

// TestDeepTrees: as deep as the bound lets a tree be, of each kind that can be so deep.
func TestDeepTrees(t *testing.T) {
	i32 := api.Type{Kind: api.TyI32}
	tree := func(kind int, kids ...api.Expr) api.Expr { return api.Expr{Kind: kind, Type: i32, Kids: kids} }
	block := func(x api.Expr) api.Expr { return tree(api.ExBlock, tree(api.ExStmt, x)) }
	leaf := tree(api.ExVar)
	box := api.Expr{Kind: api.ExVar, Num: 1, Type: api.Type{Kind: api.TyBox, Elem: []api.Type{i32}}}
	given := tree(api.ExAssign, box, tree(api.ExVariant, tree(api.ExInt)))
	borrowed := api.Expr{Kind: api.ExBorrow, Num: 1, Type: i32, Kids: []api.Expr{{Kind: api.ExVar, Num: 2, Type: i32}}}
	for name, wrap := range map[string]func(x api.Expr) api.Expr{
		"neg":    func(x api.Expr) api.Expr { return tree(api.ExNeg, x) },
		"bin":    func(x api.Expr) api.Expr { return tree(api.ExBin, x, leaf) },
		"second": func(x api.Expr) api.Expr { return tree(api.ExBin, leaf, x) },
		"and": func(x api.Expr) api.Expr {
			return api.Expr{Kind: api.ExBin, Text: "&&", Type: i32, Kids: []api.Expr{leaf, x}}
		},
		"block": block,
		"let":   func(x api.Expr) api.Expr { return tree(api.ExBlock, tree(api.ExLet, x)) },
		"if":    func(x api.Expr) api.Expr { return tree(api.ExIf, leaf, block(x)) },
		"else":  func(x api.Expr) api.Expr { return tree(api.ExIf, leaf, block(leaf), block(x)) },
		"arm": func(x api.Expr) api.Expr {
			return tree(api.ExMatch, leaf, tree(api.ExArm, tree(api.PaAny), x), tree(api.ExArm, tree(api.PaAny), leaf))
		},
		"loop":  func(x api.Expr) api.Expr { return tree(api.ExBlock, tree(api.ExLoop, block(x))) },
		"while": func(x api.Expr) api.Expr { return tree(api.ExBlock, tree(api.ExWhile, x, block(leaf))) },
		"moved": func(x api.Expr) api.Expr {
			return tree(api.ExBlock, tree(api.ExLoop, tree(api.ExBlock, tree(api.ExStmt, box), given, tree(api.ExStmt, x), tree(api.ExBreak))))
		},
		"deref": func(x api.Expr) api.Expr { return tree(api.ExDeref, x) },
		"field": func(x api.Expr) api.Expr { return tree(api.ExField, x) },
		"index": func(x api.Expr) api.Expr { return tree(api.ExIndex, x, leaf) },
		"inner": func(x api.Expr) api.Expr { return tree(api.ExIndex, leaf, x) },
		"call":  func(x api.Expr) api.Expr { return tree(api.ExCall, borrowed, x) },
	} {
		for _, deep := range []int{1000, 5000, 1 << 16} {
			x := leaf
			for range deep {
				x = wrap(x)
			}
			l := typed(t, "fn main() { (); }")
			l[0].Body.Kids[0].Kids[0] = x
			at, e := Check(l)
			if isFew := deep < 10000 || name == "deref"; at != 0 && e != api.ErrShared || isFew && e == api.ErrForm || !isFew && e != api.ErrForm {
				t.Error(name, deep, at, int(e))
			}
		}
	}
}

// TestNestedLoops: how often a loop's turn is gone through does not grow with the loops around it.
func TestNestedLoops(t *testing.T) {
	body := "b; b = give();" + strings.Repeat(" *b;", 50)
	for range 28 {
		body = "loop { while t { " + body + " } if t { break; } }"
	}
	wantTaken(t, body)
	wantWrong(t, api.ErrMoved, strings.Replace(body, "b; b = give();", "@b; if t { b = give(); }", 1))
}

// TestGreatPrograms: many variables, ways and moves.
func TestGreatPrograms(t *testing.T) {
	lets := strings.Repeat("let d = give(); d; ", 1500)
	wantTaken(t, lets+strings.Repeat("if t {} ", 3500), "loop { "+lets+strings.Repeat("if t { break; } ", 1500)+"}")
	wantWrong(t, api.ErrMoved, lets+"b; "+strings.Repeat("if t {} ", 2500)+"@b;")
}

// TestChangedByChance: programs with anything changed anywhere come to an answer, and nothing of them is changed by it.
func TestChangedByChance(t *testing.T) {
	l := goodItems(t)
	seen := map[api.Errno]int{}
	for seed := range 6000 {
		make := func() []api.Item {
			chance := rand.New(rand.NewSource(int64(seed)))
			other := copied(l)
			for range 1 + chance.Intn(3) {
				changeOne(chance, other)
			}
			return other
		}
		other := make()
		at, e := Check(other)
		seen[e]++
		wantFault(t, other, "changed", at, e)
		if (e == api.OK || e == api.ErrForm) && at != 0 {
			t.Fatal("seed", seed, "a place of nothing:", at)
		}
		if !reflect.DeepEqual(other, make()) {
			t.Fatal("seed", seed, "changed what was handed in")
		}
	}
	for _, e := range []api.Errno{api.OK, api.ErrForm, api.ErrMoved, api.ErrMove, api.ErrShared} {
		if seen[e] < 5 {
			t.Errorf("%d only %d times", int(e), seen[e])
		}
	}
}

// changeOne changes one thing of one tree.
func changeOne(chance *rand.Rand, l []api.Item) {
	all := everyTree(l)
	x, y := all[chance.Intn(len(all))], all[chance.Intn(len(all))]
	switch chance.Intn(8) {
	case 0:
		x.Kind = chance.Intn(37)
	case 1:
		x.Num = []int{0, 1, -1, 2, 255, math.MaxInt, math.MinInt}[chance.Intn(7)]
	case 2, 3:
		x.Type = y.Type
	case 4, 5:
		*x = copiedTree(*y)
	case 6:
		x.Kids = copiedTree(*y).Kids
	case 7:
		if len(x.Kids) > 0 {
			x.Kids = x.Kids[:chance.Intn(len(x.Kids))]
		}
	}
}
