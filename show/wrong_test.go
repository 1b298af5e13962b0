package show

import (
	"math"
	"slices"
	"strings"
	"testing"

	"ferrule/api"
)

// P4.3: what has no text

func TestTreeTellsNoOtherKinds(t *testing.T) {
	for _, kind := range []int{0, -1, api.ExStmt + 1, 1000, math.MaxInt, math.MinInt} {
		wantNoText(t, api.Expr{Kind: kind})
		wantNoText(t, ex(kind, "x", named("a"), named("b")))
		wantNoText(t, ex(api.ExNeg, "", ex(kind, "x")))
		wantNoText(t, ex(api.ExCall, "f", named("a"), ex(kind, "x")))
		wantNoText(t, block(stmt(ex(kind, "x"))))
		wantNoText(t, block(ex(kind, "x")))
		wantNoItems(t, function(ex(kind, "x")))
	}
}

// Statements, patterns, arms and a struct's fields are no trees by themselves, and stand in no tree but in those of theirs.
func TestTreeTellsNoTreeWhereItMayNotStand(t *testing.T) {
	arm := ex(api.ExArm, "", ex(api.PaAny, ""), named("a"))
	parts := []api.Expr{
		arm, ex(api.ExInit, "a", named("b")), numbered(ex(api.PaInt, ""), 1), ex(api.PaBool, ""), ex(api.PaAny, ""), ex(api.PaVariant, "E::A"), ex(api.PaBind, "a"),
		ex(api.ExWhile, "", named("a"), block()), ex(api.ExLoop, "", block()), ex(api.ExBreak, ""), ex(api.ExNext, ""), ex(api.ExReturn, ""), ex(api.ExReturn, "", named("a")),
		ex(api.ExLet, "a", named("b")), ex(api.ExAssign, "", named("a"), named("b")), stmt(named("a")), stmt(block()),
	}
	for _, x := range parts {
		wantNoText(t, x)
		for _, wrap := range wrappers() {
			wantNoText(t, wrap(x))
		}
		wantNoText(t, ex(api.ExIf, "", named("a"), x))
		wantNoText(t, ex(api.ExIf, "", named("a"), block(), x))
		wantNoText(t, block(ex(api.ExLoop, "", x)))
		wantNoText(t, block(ex(api.ExWhile, "", named("a"), x)))
		if x.Kind != api.ExArm {
			wantNoText(t, ex(api.ExMatch, "", named("a"), x))
		}
		if x.Kind != api.ExInit {
			wantNoText(t, ex(api.ExStruct, "S", x))
		}
		if x.Kind != api.PaBind {
			wantNoText(t, ex(api.ExMatch, "", named("a"), ex(api.ExArm, "", ex(api.PaVariant, "E::A", x), named("a"))))
		}
		wantNoItems(t, function(x))
	}
	for _, x := range []api.Expr{named("a"), ex(api.ExUnit, ""), ex(api.ExIf, "", named("a"), block()), ex(api.ExMatch, "", named("a")), bin("+", block(), named("a"))} {
		wantNoText(t, block(x))
		wantNoText(t, valued(x, named("a")))
		wantNoText(t, ex(api.ExIf, "", named("a"), x))
		wantNoText(t, block(ex(api.ExLoop, "", x)))
		wantNoText(t, ex(api.ExStruct, "S", x))
		wantNoText(t, ex(api.ExMatch, "", named("a"), x))
		wantNoText(t, ex(api.ExMatch, "", named("a"), ex(api.ExArm, "", x, named("a"))))
		wantNoText(t, ex(api.ExMatch, "", named("a"), ex(api.ExArm, "", ex(api.PaVariant, "E::A", x), named("a"))))
		wantNoItems(t, function(x))
		if x.Kind != api.ExIf {
			wantNoText(t, ex(api.ExIf, "", named("a"), block(), x))
		}
	}
}

// samples has a tree of each kind that has a text, in which that kind stands as the way of kids from the root says.
func samples() map[int]sample {
	other := ex(api.PaAny, "")
	arm := func(pattern api.Expr) api.Expr {
		return ex(api.ExMatch, "", named("a"), ex(api.ExArm, "", pattern, named("b")))
	}
	a, b := named("a"), named("b")
	return map[int]sample{
		api.ExInt: {numbered(ex(api.ExInt, "u8"), 1), nil}, api.ExBool: {ex(api.ExBool, ""), nil}, api.ExUnit: {ex(api.ExUnit, ""), nil}, api.ExVar: {a, nil},
		api.ExNeg: {ex(api.ExNeg, "", a), nil}, api.ExNot: {ex(api.ExNot, "", a), nil}, api.ExDeref: {ex(api.ExDeref, "", a), nil}, api.ExBorrow: {ex(api.ExBorrow, "", a), nil},
		api.ExBin: {bin("+", a, b), nil}, api.ExCast: {typed(ex(api.ExCast, "", a), ty(api.TyU8)), nil}, api.ExCall: {ex(api.ExCall, "f", a, b), nil},
		api.ExField: {ex(api.ExField, "a", a), nil}, api.ExIndex: {ex(api.ExIndex, "", a, b), nil},
		api.ExStruct: {ex(api.ExStruct, "S", ex(api.ExInit, "a", b)), nil}, api.ExInit: {ex(api.ExStruct, "S", ex(api.ExInit, "a", b)), []int{0}},
		api.ExVariant: {ex(api.ExVariant, "E::A", a), nil}, api.ExArray: {ex(api.ExArray, "", a, b), nil}, api.ExRepeat: {numbered(ex(api.ExRepeat, "", a), 3), nil},
		api.ExBlock: {valued(stmt(a), b), nil}, api.ExIf: {ex(api.ExIf, "", a, block(), block()), nil}, api.ExMatch: {arm(other), nil}, api.ExArm: {arm(other), []int{1}},
		api.PaInt: {arm(numbered(ex(api.PaInt, ""), -1)), []int{1, 0}}, api.PaBool: {arm(ex(api.PaBool, "")), []int{1, 0}}, api.PaAny: {arm(other), []int{1, 0}},
		api.PaVariant: {arm(ex(api.PaVariant, "E::A", ex(api.PaBind, "a"))), []int{1, 0}}, api.PaBind: {arm(ex(api.PaVariant, "E::A", ex(api.PaBind, "a"))), []int{1, 0, 0}},
		api.ExWhile: {block(ex(api.ExWhile, "", a, block())), []int{0}}, api.ExLoop: {block(ex(api.ExLoop, "", block())), []int{0}}, api.ExBreak: {block(ex(api.ExBreak, "")), []int{0}},
		api.ExNext: {block(ex(api.ExNext, "")), []int{0}}, api.ExReturn: {block(ex(api.ExReturn, "", a)), []int{0}}, api.ExLet: {block(typed(ex(api.ExLet, "a", b), ty(api.TyU8))), []int{0}},
		api.ExAssign: {block(ex(api.ExAssign, "", a, b)), []int{0}}, api.ExStmt: {block(stmt(a)), []int{0}},
	}
}

type sample struct {
	root api.Expr
	way  []int
}

// changed is the sample with its part made another one.
func (s sample) changed(change func(x *api.Expr)) api.Expr {
	root := copyTree(s.root)
	part := &root
	for _, i := range s.way {
		part = &part.Kids[i]
	}
	change(part)
	return root
}

func TestSamplesAreTold(t *testing.T) {
	for kind, s := range samples() {
		wantTold(t, s.changed(func(x *api.Expr) {
			if x.Kind != kind {
				t.Errorf("the sample of %d is one of %d", kind, x.Kind)
			}
		}))
	}
}

// How many kids a kind may have: from least to most, or to any number.
func TestTreeTellsNoOtherNumberOfKids(t *testing.T) {
	const anyNumber = 5
	counts := map[int][2]int{
		api.ExNeg: {1, 1}, api.ExNot: {1, 1}, api.ExDeref: {1, 1}, api.ExBorrow: {1, 1}, api.ExBin: {2, 2}, api.ExCast: {1, 1}, api.ExCall: {0, anyNumber}, api.ExField: {1, 1},
		api.ExIndex: {2, 2}, api.ExStruct: {0, anyNumber}, api.ExInit: {1, 1}, api.ExVariant: {0, anyNumber}, api.ExArray: {0, anyNumber}, api.ExRepeat: {1, 1}, api.ExIf: {2, 3},
		api.ExMatch: {1, anyNumber}, api.ExArm: {2, 2}, api.PaVariant: {0, anyNumber}, api.ExWhile: {2, 2}, api.ExLoop: {1, 1}, api.ExReturn: {0, 1}, api.ExLet: {1, 1},
		api.ExAssign: {2, 2}, api.ExStmt: {1, 1}, api.ExBlock: {1, 1},
	}
	for kind, s := range samples() {
		for kids := range anyNumber {
			x := s.changed(func(x *api.Expr) {
				if kind == api.ExBlock { // with a value
					x.Kids = x.Kids[1:]
				}
				for len(x.Kids) < kids {
					last := named("z")
					if len(x.Kids) > 0 {
						last = x.Kids[len(x.Kids)-1]
					}
					x.Kids = append(x.Kids, last)
				}
				x.Kids = x.Kids[:kids]
			})
			if counts[kind][0] <= kids && kids <= counts[kind][1] {
				wantTold(t, x)
			} else {
				wantNoText(t, x)
			}
		}
	}
}

func TestTreeTellsNoOtherNumberOfTypes(t *testing.T) {
	for kind, s := range samples() {
		for types := range 4 {
			x := s.changed(func(x *api.Expr) { x.Ty = slices.Repeat([]api.Type{ty(api.TyI8)}, types) })
			switch {
			case kind == api.ExCast && types == 1, kind == api.ExLet && types <= 1, kind != api.ExCast && types == 0:
				wantTold(t, x)
			default:
				wantNoText(t, x)
			}
		}
	}
}

func TestTreeTellsNoOtherTexts(t *testing.T) {
	long := strings.Repeat("a", api.MaxName)
	isName := []string{"b", "_", "__", "A9_z", "Box", "u8", "bool", "print", "fnx", "i", "trueish", long}
	noName := []string{
		"", " ", "a ", " a", "a b", "9", "9a", "1u8", "a.b", "a+b", "(a)", "a()", "a::b", "a,b", "a;", "a//", "a//x\n", "//\na", "é", "\xff", "a\x00", "-", "+", "{}", "a{}", "()", long + "a", strings.Repeat("a", 1<<17),
		"fn", "struct", "enum", "const", "let", "mut", "if", "else", "match", "while", "loop", "break", "continue", "return", "true", "false", "as",
	}
	with := func(kind int, text string) api.Expr {
		return samples()[kind].changed(func(x *api.Expr) { x.Text = text })
	}
	for _, kind := range []int{api.ExVar, api.ExCall, api.ExField, api.ExStruct, api.ExInit, api.PaBind, api.ExLet} {
		for _, text := range isName {
			wantTold(t, with(kind, text))
		}
		for _, text := range noName {
			wantNoText(t, with(kind, text))
		}
	}
	for _, kind := range []int{api.ExVariant, api.PaVariant} {
		for _, text := range isName {
			underscore := text == "_" && kind == api.PaVariant
			for _, pair := range []string{text + "::A", "E::" + text} {
				if underscore {
					wantNoText(t, with(kind, pair))
				} else {
					wantTold(t, with(kind, pair))
				}
			}
			wantNoText(t, with(kind, text))
		}
		for _, text := range noName {
			wantNoText(t, with(kind, text+"::A"))
			wantNoText(t, with(kind, "E::"+text))
			if text != "a::b" {
				wantNoText(t, with(kind, text))
			}
		}
		for _, text := range []string{"E::", "::A", "::", "E:A", "E: :A", "E:: A", "E::A::B", "E::A()"} {
			wantNoText(t, with(kind, text))
		}
	}
	signs := strings.Fields("|| && == != < <= > >= | ^ & << >> + - * / %")
	for _, text := range signs {
		wantTold(t, with(api.ExBin, text))
	}
	for _, text := range append(noName, "=", "=>", "->", ".", "::", "!", ",", ";", "as", "+ ", " +", "+-", "&& &", "||a||", "a", "// \n+", "[", "+b)*(") {
		if !slices.Contains(signs, text) {
			wantNoText(t, with(api.ExBin, text))
		}
	}
	for _, text := range []string{"", "i8", "i16", "i32", "u8", "u16", "u32"} {
		wantTold(t, with(api.ExInt, text))
	}
	for _, text := range []string{"i64", "u", "bool", "0", "_", " ", "u8 ", " u8", "U8", "x", ".a", "+1", "//"} {
		wantNoText(t, with(api.ExInt, text))
	}
	for kind := range samples() {
		switch kind {
		case api.ExVar, api.ExCall, api.ExField, api.ExStruct, api.ExInit, api.PaBind, api.ExLet, api.ExVariant, api.PaVariant, api.ExBin, api.ExInt:
		default:
			for _, text := range []string{"a", "u8", "+", " ", "E::A"} {
				wantNoText(t, with(kind, text))
			}
		}
	}
}

// Which numbers a kind may have: from least to most.
func TestTreeTellsNoOtherNumbers(t *testing.T) {
	const most = 1<<32 - 1
	ranges := map[int][2]int{
		api.ExInt: {0, most}, api.ExBool: {0, 1}, api.ExBorrow: {0, 1}, api.ExRepeat: {0, 65535}, api.ExBlock: {1, 1}, api.PaInt: {-most, most}, api.PaBool: {0, 1}, api.ExLet: {0, 1},
	}
	for kind, s := range samples() {
		for _, num := range []int{0, 1, -1, 2, 9, 10, 65535, 65536, most, most + 1, -most, -most - 1, 9999999999, 10000000000, math.MaxInt, math.MinInt, math.MinInt + 1} {
			x := s.changed(func(x *api.Expr) { x.Num = num })
			if ranges[kind][0] <= num && num <= ranges[kind][1] {
				wantTold(t, x)
			} else {
				wantNoText(t, x)
			}
		}
	}
	wantNoText(t, numbered(block(stmt(named("a"))), 1))
	wantNoText(t, numbered(block(), 1))
	wantNoText(t, numbered(block(), 2))
	wantNoText(t, numbered(block(ex(api.ExBreak, "")), 1))
}

func TestTreeTellsNoOtherTypes(t *testing.T) {
	right := []api.Type{
		ty(api.TyUnit), ty(api.TyBool), ty(api.TyI8), ty(api.TyI16), ty(api.TyI32), ty(api.TyU8), ty(api.TyU16), ty(api.TyU32), tyNamed("S"), tyNamed("_"), tyNamed("i64"),
		tyArray(0, ty(api.TyU8)), tyArray(65535, ty(api.TyU8)), ty(api.TyBox, ty(api.TyUnit)), ty(api.TyRef, ty(api.TyRef, ty(api.TyMut, ty(api.TyRef, ty(api.TyMut, tyNamed("S")))))),
	}
	wrong := []api.Type{
		{}, ty(-1), ty(api.TyNever), ty(api.TyNever + 1), ty(math.MaxInt), tyNamed(""), tyNamed("u8"), tyNamed("bool"), tyNamed("Box"), tyNamed("fn"), tyNamed("a b"), tyNamed("S "), tyNamed("()"),
		tyNamed("Box<u8>"), tyNamed("&S"), tyNamed("9"), tyNamed(strings.Repeat("a", api.MaxName+1)), {Kind: api.TyUnit, Name: "a"}, {Kind: api.TyU8, Name: "u8"}, {Kind: api.TyBool, N: 1}, ty(api.TyI8, ty(api.TyI8)),
		{Kind: api.TyNamed, Name: "S", N: 1}, {Kind: api.TyNamed, Name: "S", Elem: []api.Type{ty(api.TyU8)}},
		tyArray(1), tyArray(-1, ty(api.TyU8)), tyArray(65536, ty(api.TyU8)), tyArray(1, ty(api.TyU8), ty(api.TyU8)), {Kind: api.TyArray, Name: "a", N: 1, Elem: []api.Type{ty(api.TyU8)}},
		ty(api.TyBox), ty(api.TyBox, ty(api.TyU8), ty(api.TyU8)), {Kind: api.TyBox, Name: "a", Elem: []api.Type{ty(api.TyU8)}}, {Kind: api.TyBox, N: 1, Elem: []api.Type{ty(api.TyU8)}},
		ty(api.TyRef), ty(api.TyMut), ty(api.TyRef, api.Type{}), ty(api.TyMut, ty(api.TyNever)), {Kind: api.TyMut, Name: "mut", Elem: []api.Type{ty(api.TyU8)}}, {Kind: api.TyRef, N: 7, Elem: []api.Type{ty(api.TyU8)}},
	}
	around := []func(of api.Type) api.Type{
		func(of api.Type) api.Type { return of },
		func(of api.Type) api.Type { return ty(api.TyBox, of) },
		func(of api.Type) api.Type { return tyArray(2, ty(api.TyMut, of)) },
	}
	for _, wrap := range around {
		for _, of := range right {
			for _, x := range treesOf(wrap(of)) {
				wantTold(t, x)
			}
			for _, it := range itemsOf(wrap(of)) {
				wantItemsTold(t, []api.Item{it})
			}
		}
		for _, of := range wrong {
			for _, x := range treesOf(wrap(of)) {
				wantNoText(t, x)
			}
			for _, it := range itemsOf(wrap(of)) {
				wantNoItems(t, it)
			}
		}
	}
}

func treesOf(of api.Type) []api.Expr {
	return []api.Expr{
		typed(ex(api.ExCast, "", named("a")), of), block(typed(ex(api.ExLet, "a", named("b")), of)),
		bin(">", typed(ex(api.ExCast, "", named("a")), of), named("b")), bin(">>", typed(ex(api.ExCast, "", named("a")), of), named("b")),
	}
}

func itemsOf(of api.Type) []api.Item {
	answers := function(block())
	answers.Type = of
	takes := function(block())
	takes.Params = []api.Param{{Name: "a", Type: of}, {Name: "b", Type: of, Mut: true}}
	return []api.Item{
		answers, takes,
		{Kind: api.ItStruct, Name: "S", Params: []api.Param{{Name: "a", Type: of}}},
		{Kind: api.ItEnum, Name: "E", Variants: []api.Variant{{Name: "A", Types: []api.Type{of, of}}}},
		{Kind: api.ItConst, Name: "C", Type: of, Num: 1},
	}
}

func TestItemsTellsNoOtherItems(t *testing.T) {
	u8 := ty(api.TyU8)
	full := []api.Item{
		{Kind: api.ItFunc, Name: "f", Params: []api.Param{{Name: "a", Type: u8}, {Name: "b", Mut: true, Type: u8}}, Type: u8, Body: valued(named("a"))},
		{Kind: api.ItStruct, Name: "S", Params: []api.Param{{Name: "a", Type: u8}, {Name: "b", Type: u8}}},
		{Kind: api.ItEnum, Name: "E", Variants: []api.Variant{{Name: "A"}, {Name: "B", Types: []api.Type{u8}}}},
		{Kind: api.ItConst, Name: "C", Type: u8, Num: -1},
	}
	wantItemsTold(t, full)
	everyone := func(kind int) bool { return true }
	isnt := func(kinds ...int) func(kind int) bool {
		return func(kind int) bool { return !slices.Contains(kinds, kind) }
	}
	is := func(kinds ...int) func(kind int) bool {
		return func(kind int) bool { return slices.Contains(kinds, kind) }
	}
	for i, wrong := range []struct {
		of     func(kind int) bool
		change func(it *api.Item)
	}{
		{everyone, func(it *api.Item) { it.Kind = 0 }},
		{everyone, func(it *api.Item) { it.Kind = -1 }},
		{everyone, func(it *api.Item) { it.Kind = api.ItConst + 1 }},
		{everyone, func(it *api.Item) { it.Kind = it.Kind%4 + 1 }},
		{everyone, func(it *api.Item) { *it = api.Item{} }},
		{everyone, func(it *api.Item) { it.Name = "" }},
		{everyone, func(it *api.Item) { it.Name = "fn" }},
		{everyone, func(it *api.Item) { it.Name = "a b" }},
		{everyone, func(it *api.Item) { it.Name = strings.Repeat("a", api.MaxName+1) }},
		{isnt(api.ItFunc, api.ItStruct), func(it *api.Item) { it.Params = []api.Param{{Name: "a", Type: u8}} }},
		{isnt(api.ItFunc, api.ItStruct), func(it *api.Item) { it.Params = []api.Param{{}} }},
		{isnt(api.ItEnum), func(it *api.Item) { it.Variants = []api.Variant{{Name: "A"}} }},
		{isnt(api.ItEnum), func(it *api.Item) { it.Variants = []api.Variant{{}} }},
		{isnt(api.ItConst), func(it *api.Item) { it.Num = 1 }},
		{is(api.ItStruct, api.ItEnum), func(it *api.Item) { it.Type = u8 }},
		{is(api.ItStruct, api.ItEnum), func(it *api.Item) { it.Type = ty(api.TyUnit) }},
		{is(api.ItStruct, api.ItEnum), func(it *api.Item) { it.Type = api.Type{N: 1} }},
		{is(api.ItFunc, api.ItConst), func(it *api.Item) { it.Type = api.Type{} }},
		{is(api.ItFunc), func(it *api.Item) { it.Type = api.Type{Kind: api.TyUnit, Name: "a"} }},
		{isnt(api.ItFunc), func(it *api.Item) { it.Body = block() }},
		{isnt(api.ItFunc), func(it *api.Item) { it.Body = api.Expr{Text: "a"} }},
		{is(api.ItFunc), func(it *api.Item) { it.Body = api.Expr{} }},
		{is(api.ItFunc), func(it *api.Item) { it.Body = named("a") }},
		{is(api.ItFunc), func(it *api.Item) { it.Body = ex(api.ExIf, "", named("a"), block()) }},
		{is(api.ItFunc), func(it *api.Item) { it.Body.Num = 2 }},
		{is(api.ItFunc), func(it *api.Item) { it.Body.Kids[0].Text = "let" }},
		{is(api.ItStruct), func(it *api.Item) { it.Params[0].Mut = true }},
		{is(api.ItFunc, api.ItStruct), func(it *api.Item) { it.Params[1].Name = "" }},
		{is(api.ItFunc, api.ItStruct), func(it *api.Item) { it.Params[1].Name = "mut" }},
		{is(api.ItFunc, api.ItStruct), func(it *api.Item) { it.Params[0].Name = "mut a" }},
		{is(api.ItFunc, api.ItStruct), func(it *api.Item) { it.Params[0].Name = "x:u8,a" }},
		{is(api.ItFunc, api.ItStruct), func(it *api.Item) { it.Params[1].Type = api.Type{} }},
		{is(api.ItEnum), func(it *api.Item) { it.Variants[0].Name = "" }},
		{is(api.ItEnum), func(it *api.Item) { it.Variants[1].Name = "" }},
		{is(api.ItEnum), func(it *api.Item) { it.Variants[0].Name = "A(u8)" }},
		{is(api.ItEnum), func(it *api.Item) { it.Variants[0].Name = "A,A" }},
		{is(api.ItEnum), func(it *api.Item) { it.Variants[1].Types[0] = api.Type{} }},
		{is(api.ItConst), func(it *api.Item) { it.Num = 1 << 32 }},
		{is(api.ItConst), func(it *api.Item) { it.Num = -1 << 32 }},
		{is(api.ItConst), func(it *api.Item) { it.Num = math.MinInt }},
		{is(api.ItConst), func(it *api.Item) { it.Num = math.MaxInt }},
	} {
		for n := range full {
			if !wrong.of(full[n].Kind) {
				continue
			}
			l := make([]api.Item, len(full))
			for k, it := range full {
				l[k] = copyItem(it)
			}
			wrong.change(&l[n])
			wantNoItems(t, l...)
			if t.Failed() {
				t.Fatalf("change %d of item %d", i, n)
			}
		}
	}
	for _, num := range []int{0, 1, 1<<32 - 1, -1<<32 + 1} {
		wantItemsTold(t, []api.Item{{Kind: api.ItConst, Name: "C", Type: u8, Num: num}})
	}
}

func copyItem(it api.Item) api.Item {
	it.Params, it.Variants, it.Body, it.Type = slices.Clone(it.Params), slices.Clone(it.Variants), copyTree(it.Body), copyType(it.Type)
	for i := range it.Variants {
		it.Variants[i].Types = slices.Clone(it.Variants[i].Types)
	}
	return it
}
