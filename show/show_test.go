package show

import (
	"reflect"
	"slices"
	"strings"
	"testing"

	"ferrule/api"
)

// P4.3: what has a text

func TestTreeTellsTheExample(t *testing.T) {
	if text := wantTold(t, parsed(t, "1+2*x")); text != "1+2*x" {
		t.Errorf("1+2*x is told as %q", text)
	}
}

// Each of these is a shortest text of what it parses to: what is told is as short.
func TestTreeTellsEachKind(t *testing.T) {
	for _, text := range []string{
		"0", "7", "12i8", "300u8", "4294967295", "4294967295u32", "true", "false", "()", "x", "_", "Box", "u8",
		"-x", "-1", "--1", "!x", "*x", "&x", "&mut x", "& &x", "&mut&x", "& &mut x", "&mut*x", "-!*&x",
		"a+b", "a& &b", "a&&&b", "a& &mut b", "a-*b", "a--b", "a/*b", "a<-b", "a!=!b", "a&&b||c", "a||(b||c)", "a-(b-c)", "a-b-c", "(a<b)<c", "a<(b<c)",
		"a as u8", "1 as u8", "1u8 as u8", "(a+b)as u8", "-a as u8", "a as u8 as u16", "a[0]as u8", "a as()as[u8;3]as S", "a as& &u8", "a as&mut u8", "a as S<b", "a as _",
		"a as Box<u8>", "a as Box<Box<u8>>", "a as Box<Box<Box<& &mut[Box<()>;65535]>>>",
		"a as Box<u8>>b", "a as Box<u8> >>b", "a as Box<u8> >=b", "a as Box<u8> ==b", "a as Box<u8>!=b", "a as Box<u8><b", "a as Box<u8>as u8",
		"a as Box<Box<u8>>>b", "a as Box<Box<u8>>>>b", "a as Box<Box<u8>>>=b", "a as Box<Box<u8>>==b",
		"a as Box<Box<Box<u8>>>>b", "a as Box<Box<Box<u8>>> >>b", "a as Box<Box<Box<u8>>> >=b", "a as Box<[Box<u8>;1]> ==b", "a as Box<&Box<u8>>==b",
		"f()", "f(a)", "f(a,-1,g())", "_(_)", "x.a", "x.a.b", "1.a", "x[0]", "x[a][b+1].c[d]", "(-x).a", "(a+b)[0]", "f(a)[0].b", "-x.a[1]as u8",
		"S{}", "S{a:1}", "S{a:1,b:-x,_:T{}}", "_{}", "S{}.a", "S{a:1}[0]",
		"E::A", "E::A(1)", "E::A(1,x)", "_::_", "Box::new(1)", "E::A.a", "E::A+1",
		"[]", "[1]", "[1,a]", "[1;0]", "[a+b;65535]", "[[];1]", "[S{}][0]",
		"{}", "{1}", "{a}", "{a;}", "{a;b}", "{a;b;}", "{{}}", "{{};}", "{{}{}}", "{{}{};}", "{{}a}", "{{}-a}", "{{}[0]}", "{{}(a+b)*c}", "{if a{}}", "{if a{};}",
		"{({}).a}", "{({})+1}", "{({})as u8}", "{({}.a)as u8}", "{({})=1;}", "{({})[0]=1;}", "{-{}}", "{a={}+1;}", "{return{}+1;}", "{let a={}+1;}",
		"if a{}", "if a{}else{}", "if a{}else if b{}", "if a{}else if b{1}else{2}", "if a{1}else{if b{2}}", "if if a{}{}", "if if a{}{}else{}", "if{}{}", "if{}=={}{}", "if-a{}", "if a{}+1",
		"match a{}", "match a{_=>1}", "match a{_=>1,_=>{}}", "match a{1=>-1,-1=>{}+1,0=>()}", "match a{4294967295=>1,-4294967295=>2}", "match a{true=>1,false=>2}",
		"match a{E::A=>1,E::B(_)=>2,Box::C(a,_,u8)=>3}", "match{}{}", "match a{_=>S{}}", "match a{_=>1}.b",
		"{while a{}}", "{while a{b;}c}", "{loop{}}", "{loop{break;}continue;}", "{break;}", "{return;}", "{return a;}", "{return-a;}", "{return(a+b)*c;}", "{return S{};}",
		"{let a=1;}", "{let mut a=1;a}", "{let a:u8=1;}", "{let _:&mut S=&mut a;}", "{let a:Box<u8> =1;}", "{let a:Box<Box<u8>>=1;}", "{let a=S{};}",
		"{a=1;}", "{a=b;}", "{*a=1;}", "{a.b[0]=c;}", "{a as Box<u8> =c;}", "{S{};S{}}", "{if a{}b=1;}", "{match a{}*b=1;}", "{{}&b;}", "{if a{}else{}{}{};}",
	} {
		if told := wantTold(t, parsed(t, text)); len(told) != len(text) {
			t.Errorf("%q is told as %q", text, told)
		}
	}
}

func TestTreeTellsWhatACondMayNotHold(t *testing.T) {
	for text, want := range map[string]string{
		"if(S{}){}":                       "if(S{}){}",
		"if (S {}) == a {}":               "if(S{})==a{}",
		"if a == (S {}) {}":               "if(a==S{}){}",
		"if (S{}) == (S{}) {}":            "if(S{}==S{}){}",
		"if -(S{}) {}":                    "if-(S{}){}",
		"if (S{}).a {}":                   "if(S{}).a{}",
		"if (S{}).a as u8 {}":             "if(S{}.a)as u8{}",
		"if a & &(S{}) == b {}":           "if(a& &S{}==b){}",
		"if - (a & &(S{})) {}":            "if-(a& &S{}){}",
		"if (a + (S{})) * b {}":           "if(a+S{})*b{}",
		"if f(S{}) {}":                    "if f(S{}){}",
		"if [S{}] {}":                     "if[S{}]{}",
		"if a[S{}] {}":                    "if a[S{}]{}",
		"if { S{} } {}":                   "if{S{}}{}",
		"if match a { _ => S{} } {}":      "if match a{_=>S{}}{}",
		"if if (S{}) {} else {} {}":       "if if(S{}){}else{}{}",
		"if (if (S{}) {}) == (S{}) {}":    "if(if(S{}){}==S{}){}",
		"match (S{}) { _ => S{} }":        "match(S{}){_=>S{}}",
		"{ while (S{}) { S{} } S{} }":     "{while(S{}){S{}}S{}}",
		"if a {} else if (S{}) {}":        "if a{}else if(S{}){}",
		"{ while match (S{}) {} {} }":     "{while match(S{}){}{}}",
		"if a { if (S{}) { (S{}) } }":     "if a{if(S{}){S{}}}",
		"match a { _ => if (S{}) {} }":    "match a{_=>if(S{}){}}",
		"if (S{ a: if (S{}) {} }) {}":     "if(S{a:if(S{}){}}){}",
		"if x as u8 == (S{}).a as u16 {}": "if(x as u8==S{}.a as u16){}",
	} {
		parsed(t, want)
		if told := wantTold(t, parsed(t, text)); len(told) != len(want) {
			t.Errorf("%q is told as %q, not in %d bytes, as %q", text, told, len(want), want)
		}
	}
}

// The signs of each rank, and what else has a tree within it.
func wrappers() []func(x api.Expr) api.Expr {
	kind := func(kind, num int) func(x api.Expr) api.Expr {
		return func(x api.Expr) api.Expr { return numbered(ex(kind, "", x), num) }
	}
	cast := func(of api.Type) func(x api.Expr) api.Expr {
		return func(x api.Expr) api.Expr { return typed(ex(api.ExCast, "", x), of) }
	}
	all := []func(x api.Expr) api.Expr{
		kind(api.ExNeg, 0), kind(api.ExNot, 0), kind(api.ExDeref, 0), kind(api.ExBorrow, 0), kind(api.ExBorrow, 1), kind(api.ExArray, 0), kind(api.ExRepeat, 3),
		cast(ty(api.TyU8)), cast(ty(api.TyBox, ty(api.TyU8))), cast(ty(api.TyBox, ty(api.TyBox, ty(api.TyU8)))),
		func(x api.Expr) api.Expr { return ex(api.ExField, "a", x) },
		func(x api.Expr) api.Expr { return ex(api.ExIndex, "", x, named("i")) },
		func(x api.Expr) api.Expr { return ex(api.ExIndex, "", named("a"), x) },
		func(x api.Expr) api.Expr { return ex(api.ExCall, "f", named("a"), x) },
		func(x api.Expr) api.Expr { return ex(api.ExVariant, "E::A", x, named("a")) },
		func(x api.Expr) api.Expr { return ex(api.ExStruct, "S", ex(api.ExInit, "a", x)) },
		func(x api.Expr) api.Expr { return ex(api.ExIf, "", x, block()) },
		func(x api.Expr) api.Expr { return ex(api.ExIf, "", x, block(), valued(x)) },
		func(x api.Expr) api.Expr { return ex(api.ExMatch, "", x) },
		func(x api.Expr) api.Expr {
			return ex(api.ExMatch, "", x, ex(api.ExArm, "", ex(api.PaAny, ""), x), ex(api.ExArm, "", ex(api.PaBool, ""), x))
		},
		func(x api.Expr) api.Expr { return valued(x) },
		func(x api.Expr) api.Expr { return block(stmt(x)) },
		func(x api.Expr) api.Expr { return valued(stmt(x), x) },
		func(x api.Expr) api.Expr { return block(stmt(x), stmt(x)) },
		func(x api.Expr) api.Expr { return block(ex(api.ExWhile, "", x, block())) },
		func(x api.Expr) api.Expr { return block(ex(api.ExAssign, "", x, x)) },
		func(x api.Expr) api.Expr { return block(ex(api.ExReturn, "", x)) },
		func(x api.Expr) api.Expr { return block(ex(api.ExLet, "a", x), ex(api.ExLoop, "", valued(x))) },
	}
	for _, sign := range strings.Fields("|| && == != < <= > >= | ^ & << >> + - * / %") {
		all = append(all,
			func(x api.Expr) api.Expr { return bin(sign, x, named("a")) },
			func(x api.Expr) api.Expr { return bin(sign, named("a"), x) })
	}
	return all
}

func TestTreeTellsEachKindWithinEach(t *testing.T) {
	t.Parallel()
	inner := []api.Expr{named("x"), numbered(ex(api.ExInt, "u8"), 1), ex(api.ExStruct, "S"), block(), ex(api.ExIf, "", named("x"), block()), bin("+", named("x"), named("y"))}
	for _, outer := range wrappers() {
		for _, middle := range wrappers() {
			for _, x := range inner {
				wantTold(t, outer(middle(x)))
			}
		}
		if t.Failed() {
			return
		}
	}
}

func TestItemsTellsEachKind(t *testing.T) {
	for _, text := range []string{
		"",
		"fn f(){}",
		"fn f(){}fn f(){}",
		"fn main(){print(6*7);}",
		"fn f(a:u8)->u8{a}",
		"fn f(mut a:&mut S,_:Box<Box<u8>>,b:[();3])->Box<u8>{return;}",
		"fn _()->&u8{loop{}}",
		"struct S{}",
		"struct S{a:u8}",
		"struct S{a:u8,_:Box<S>,c:& &T}",
		"enum E{}",
		"enum E{A}",
		"enum E{A,B(u8),_(Box<E>,[u8;0]),D}",
		"const A:u8=1;",
		"const A:u8=0;",
		"const _:()=-4294967295;",
		"const A:Box<u8> =4294967295;",
		"const A:Box<Box<u8>>=1;",
		"struct S{}enum E{}const A:S=1;fn f(){}",
	} {
		if told := wantItemsTold(t, parsedItems(t, text)); told != text {
			t.Errorf("%q is told as %q", text, told)
		}
	}
}

func TestItemsTellsAnEmptyList(t *testing.T) {
	for _, l := range [][]api.Item{nil, {}} {
		if text, e := Items(l); text != "" || e != api.OK {
			t.Errorf("Items of none = %q, %d", text, int(e))
		}
	}
}

// What is told does not hang on places, nor on what trees were typed, nor on nil or empty lists.
func TestWhatIsNotAskedFor(t *testing.T) {
	x := ex(api.ExCall, "f", named("a"))
	x.At, x.Type, x.Ty = -5, ty(api.TyNever), []api.Type{}
	x.Kids[0].At, x.Kids[0].Type, x.Kids[0].Kids = 1<<40, ty(99), []api.Expr{}
	wantTold(t, x)
	it := function(block())
	it.At, it.Params, it.Variants, it.Body.Type = -1, []api.Param{{Name: "a", Type: ty(api.TyU8), At: -7}}, []api.Variant{}, ty(api.TyUnit)
	en := api.Item{Kind: api.ItEnum, Name: "E", At: 9, Variants: []api.Variant{{Name: "A", Types: []api.Type{}, At: 3}}, Body: api.Expr{At: 4, Type: ty(api.TyU8)}}
	wantItemsTold(t, []api.Item{it, en})
}

func TestVariantsWithoutTypesAreToldWithoutBrackets(t *testing.T) {
	l := parsedItems(t, "enum E { A(), } fn f() -> () { match E::A() { E::A() => {}, } }")
	if text := wantItemsTold(t, l); text != "enum E{A}fn f(){match E::A{E::A=>{}}}" {
		t.Errorf("told as %q", text)
	}
}

// Rule 4: what is handed in stays as it is, its spare room too.
func TestNothingThatIsHandedInChanges(t *testing.T) {
	x := parsed(t, "if a == (S { b: -1 }) { let c: Box<u8> = [1, 2]; } else { match d { E::A(e) => 3, _ => 4 } }")
	spare := append(make([]api.Expr, 0, 9), x.Kids...)
	x.Kids = spare[:len(x.Kids)]
	before, behind := copyTree(x), slices.Clone(spare[:9])
	wantTold(t, x)
	l := []api.Item{function(valued(x)), {Kind: api.ItConst, Name: "C", Type: ty(api.TyBox, ty(api.TyU8)), Num: -1}}
	wantItemsTold(t, l)
	if !reflect.DeepEqual(x, before) || !reflect.DeepEqual(spare[:9], behind) {
		t.Error("a tree that was handed in is another one now")
	}
}

func TestToldTextsAreTheSameEachTime(t *testing.T) {
	x := parsed(t, "if a == (S {}) && (T {}) == b { 1 } else { ({}).a as u8 }")
	text := wantTold(t, x)
	for range 20 {
		if again := wantTold(t, x); again != text {
			t.Fatalf("told as %q, then as %q", text, again)
		}
	}
}

// P4.3: limits

func TestTreeTellsNestingUpToItsLimit(t *testing.T) {
	for name, nest := range map[string]struct {
		inner api.Expr
		most  int
		wrap  func(x api.Expr) api.Expr
	}{
		"prefixes":   {named("x"), 59, func(x api.Expr) api.Expr { return ex(api.ExNeg, "", x) }},
		"borrows":    {named("x"), 59, func(x api.Expr) api.Expr { return ex(api.ExBorrow, "", x) }},
		"calls":      {ex(api.ExCall, "f"), 59, func(x api.Expr) api.Expr { return ex(api.ExCall, "f", x) }},
		"arrays":     {named("x"), 59, func(x api.Expr) api.Expr { return ex(api.ExArray, "", x) }},
		"repeats":    {named("x"), 59, func(x api.Expr) api.Expr { return ex(api.ExRepeat, "", x) }},
		"structs":    {named("x"), 59, func(x api.Expr) api.Expr { return ex(api.ExStruct, "S", ex(api.ExInit, "a", x)) }},
		"indices":    {named("x"), 59, func(x api.Expr) api.Expr { return ex(api.ExIndex, "", named("a"), x) }},
		"brackets":   {named("x"), 60, func(x api.Expr) api.Expr { return bin("+", named("a"), x) }},
		"compared":   {bin("<", named("a"), named("b")), 59, func(x api.Expr) api.Expr { return bin("<", x, named("a")) }},
		"both":       {named("x"), 29, func(x api.Expr) api.Expr { return ex(api.ExNeg, "", bin("+", x, named("a"))) }},
		"fields":     {named("x"), 29, func(x api.Expr) api.Expr { return ex(api.ExField, "a", ex(api.ExNeg, "", x)) }},
		"values":     {block(), 58, func(x api.Expr) api.Expr { return valued(x) }},
		"statements": {block(), 58, func(x api.Expr) api.Expr { return block(stmt(x)) }},
		"closed":     {block(), 19, func(x api.Expr) api.Expr { return valued(ex(api.ExField, "a", x)) }},
		"conds":      {named("x"), 29, func(x api.Expr) api.Expr { return ex(api.ExIf, "", x, block()) }},
		"elses":      {block(), 58, func(x api.Expr) api.Expr { return ex(api.ExIf, "", named("a"), block(), x) }},
		"matches":    {named("x"), 29, func(x api.Expr) api.Expr { return ex(api.ExMatch, "", x) }},
		"arms": {named("x"), 29, func(x api.Expr) api.Expr {
			return ex(api.ExMatch, "", named("a"), ex(api.ExArm, "", ex(api.PaAny, ""), x))
		}},
		"whiles":      {block(), 58, func(x api.Expr) api.Expr { return block(ex(api.ExWhile, "", named("a"), x)) }},
		"loops":       {block(), 58, func(x api.Expr) api.Expr { return block(ex(api.ExLoop, "", x)) }},
		"sums":        {named("x"), 500, func(x api.Expr) api.Expr { return bin("+", x, named("a")) }},
		"of no depth": {named("x"), 500, func(x api.Expr) api.Expr { return typed(ex(api.ExCast, "", x), ty(api.TyU8)) }},
	} {
		x := nest.inner
		for range nest.most {
			x = nest.wrap(x)
		}
		wantTold(t, x)
		if nest.most <= 60 {
			wantNoText(t, nest.wrap(x))
		}
		if t.Failed() {
			t.Fatal(name)
		}
	}
}

func TestBracketsInCondsCountAsNesting(t *testing.T) {
	ifs := func(x api.Expr) api.Expr {
		for range 29 {
			x = ex(api.ExIf, "", x, block())
		}
		return x
	}
	wantTold(t, ifs(ex(api.ExNeg, "", named("x"))))
	wantTold(t, ifs(ex(api.ExStruct, "S")))
	wantTold(t, ifs(ex(api.ExField, "a", ex(api.ExStruct, "S"))))
	wantNoText(t, ifs(ex(api.ExNeg, "", ex(api.ExStruct, "S"))))
	// The shorter text, with one pair of brackets around all, can be too deep for the calls where that with two pairs is not.
	with := func(calls int) api.Expr {
		x := named("x")
		for range calls {
			x = ex(api.ExCall, "f", x)
		}
		return ex(api.ExIf, "", bin("&&", bin("&&", ex(api.ExStruct, "S"), x), ex(api.ExStruct, "S")), block())
	}
	for calls, want := range map[int]string{1: "if(S{}&&f(x)&&S{}){}", 56: "if(S{}&&f(f(", 57: "if(S{})&&f(f("} {
		if text := wantTold(t, with(calls)); !strings.HasPrefix(text, want) {
			t.Errorf("with %d calls told as %q, not as %q", calls, text, want)
		}
	}
	wantNoText(t, with(58))
}

func TestTypesNestUpToTheirLimit(t *testing.T) {
	of := ty(api.TyU8)
	for range 59 {
		of = ty(api.TyBox, of)
	}
	cast := func(of api.Type) api.Expr { return typed(ex(api.ExCast, "", named("x")), of) }
	let := func(of api.Type) api.Item { return function(block(typed(ex(api.ExLet, "a", named("x")), of))) }
	wantTold(t, cast(of))
	wantNoText(t, cast(ty(api.TyRef, of)))
	wantNoText(t, ex(api.ExArray, "", cast(of)))
	wantTold(t, ex(api.ExArray, "", cast(of.Elem[0])))
	wantItemsTold(t, []api.Item{let(of.Elem[0])})
	wantNoItems(t, let(of))
	constant := api.Item{Kind: api.ItConst, Name: "C", Type: of}
	wantItemsTold(t, []api.Item{constant})
	constant.Type = ty(api.TyMut, of)
	wantNoItems(t, constant)
}

func TestBlocksOfFunctionsNestUpToTheirLimit(t *testing.T) {
	body := block()
	for range 59 {
		body = block(stmt(body))
	}
	wantItemsTold(t, []api.Item{function(body)})
	wantNoItems(t, function(valued(body)))
	wantNoItems(t, function(body), function(block(stmt(body))))
}

// Each text is as long as may be, and the shortest of what it parses to: with a byte more there is none.
func TestTextsUpToTheirLimit(t *testing.T) {
	t.Parallel()
	for _, parts := range []struct{ before, often, behind string }{
		{"1", "+1", ""},
		{"x", ".a", ""},
		{"x", " as u8", ""},
		{"[", "1,", "1]"},
		{"{", "{}", "a}"},
		{"{", "a;", "}"},
		{"{", "if(a==S{}){}", "b}"},
		{"{", "if(S{}==S{}){}", "b}"},
		{"[", "a as Box<u8>>b,", "1]"},
		{"[", "a as Box<Box<u8>>>=b,", "1]"},
		{"[", "(a& &b)as u8,", "1]"},
		{"{", "({}.a)as u8;", "b}"},
		{"[", "(1+2)*3,", "1]"},
		{"{", "match E::A{_=>1,E::A=>2}", "b}"},
		{"{", "while-1{let a:Box<u8> =S{};}", "b}"},
		{"[", strings.Repeat("a", api.MaxName) + ",", "b,c]"},
	} {
		times := (api.MaxText - len(parts.before) - len(parts.behind)) / len(parts.often)
		text := parts.before + strings.Repeat(parts.often, times) + parts.behind
		x := parsed(t, text)
		lengthen(&x, api.MaxText-len(text))
		if told := wantTold(t, x); len(told) != api.MaxText {
			t.Errorf("%.50q .. is told with %d bytes", text, len(told))
		}
		lengthen(&x, 1)
		wantNoText(t, x)
	}
}

// lengthen makes names and ints of a tree longer, by so many bytes in all, and tells how many of those are left.
func lengthen(x *api.Expr, by int) int {
	if x.Kind == api.ExVar {
		more := min(by, api.MaxName-len(x.Text))
		x.Text, by = x.Text+strings.Repeat("z", more), by-more
	}
	for by > 0 && x.Kind == api.ExInt && x.Num < 1e8 {
		x.Num, by = max(x.Num, 1)*10, by-1
	}
	for i := range x.Kids {
		by = lengthen(&x.Kids[i], by)
	}
	return by
}

func TestItemsUpToTheLimitOfTexts(t *testing.T) {
	l := parsedItems(t, strings.Repeat("fn f(){}", api.MaxText/8))
	if text := wantItemsTold(t, l); len(text) != api.MaxText {
		t.Errorf("told with %d bytes", len(text))
	}
	l[77].Name = "ff"
	wantNoItems(t, l...)
	wantNoItems(t, append(l, function(block()))...)
	en := api.Item{Kind: api.ItEnum, Name: "E"}
	for range (api.MaxText - len("enum E{}")) / 2 {
		en.Variants = append(en.Variants, api.Variant{Name: "A"})
	}
	en.Name = "EE"
	if text := wantItemsTold(t, []api.Item{en}); len(text) != api.MaxText {
		t.Errorf("told with %d bytes", len(text))
	}
	en.Variants[5].Name = "AA"
	wantNoItems(t, en)
}

// A text with blanks and brackets that are not needed may be as long as texts may be, and is told without them.
func TestLongTextsWithBlanksAreTold(t *testing.T) {
	for _, often := range []string{" + ( (1) )", " \n//\n/ x . a", " as\tu8", "[ ((1)) ]"} {
		text := "x" + strings.Repeat(often, (api.MaxText-1)/len(often))
		wantTold(t, parsed(t, text+strings.Repeat(" ", api.MaxText-len(text))))
	}
}

// Whatever is given, the call ends: parts that share their memory can be many more than they take.
func TestTreesThatShareTheirParts(t *testing.T) {
	t.Parallel()
	x, of := named("x"), ty(api.TyU8)
	for range 70 {
		x, of = bin("+", x, x), ty(api.TyBox, of, of)
	}
	wantNoTextOf := func(x api.Expr) {
		if text, e := Tree(x); text != "" || e != api.ErrForm {
			t.Errorf("Tree of many parts = %.50q, %d", text, int(e))
		}
	}
	wantNoTextOf(x)
	wantNoTextOf(typed(ex(api.ExCast, "", named("x")), of))
	many := make([]api.Expr, 1000)
	for i := range many {
		many[i] = x
	}
	wantNoTextOf(ex(api.ExArray, "", many...))
	wantNoTextOf(ex(api.ExMatch, "", many...))
	wantNoTextOf(block(many...))
	if text, e := Items([]api.Item{function(valued(x))}); text != "" || e != api.ErrForm {
		t.Errorf("Items of many parts = %.50q, %d", text, int(e))
	}
	deep := named("x")
	for range 60000 {
		deep = ex(api.ExNeg, "", deep)
	}
	wantNoTextOf(deep)
	round, rounds := make([]api.Expr, 1), make([]api.Type, 1)
	round[0], rounds[0] = ex(api.ExField, "a", round...), ty(api.TyBox, rounds...)
	wantNoTextOf(round[0])
	wantNoTextOf(typed(ex(api.ExCast, "", named("x")), rounds[0]))
}

func TestItemsTellsAWholeProgram(t *testing.T) {
	wantItemsTold(t, parsedItems(t, `
		struct P { a: u8, b: Box<[i16; 3]> }
		enum E { A, B(P, bool) }
		const C: i8 = -5;
		fn g(mut p: &mut P, e: E) -> u8 {
			let mut i = 0u8;
			while i < 3 && !(P { a: 1 } == p) {
				if i == 1 { i = i + 1; continue; } else if i == 2 { break; }
				match e { E::A => { return i; }, E::B(_, t) => (), _ => { loop { break; } } }
			}
			p.b[i as u32 - 1] = -7;
			{ i }
		}
		fn main() { print(g(&mut x, E::B(P { a: 1, b: Box::new([0; 3]) }, true))) }`))
}
