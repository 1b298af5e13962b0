package parse

import (
	"strconv"
	"strings"
	"testing"

	"ferrule/api"
	"ferrule/lex"
)

// P3.1: trees

func TestTreeTellsTheExample(t *testing.T) {
	wantTree(t, "1 + 2 * x", "bin:+@2(int#1@0 bin:*@6(int#2@4 var:x@8))")
	wantTreeFault(t, "a < b < c", 6, api.ErrParse)
}

func TestTreeTellsPrimaries(t *testing.T) {
	for text, want := range map[string]string{
		"0":               "int@0",
		" 7":              "int#7@1",
		"12i8":            "int:i8#12@0",
		"1u16":            "int:u16#1@0",
		"4294967295u32":   "int:u32#4294967295@0",
		"300u8":           "int:u8#300@0",
		"true":            "bool#1@0",
		"false":           "bool@0",
		"()":              "unit@0",
		" ( ) ":           "unit@1",
		"(x)":             "var:x@1",
		"((x))":           "var:x@2",
		"(())":            "unit@1",
		"x":               "var:x@0",
		"_":               "var:_@0",
		"Box":             "var:Box@0",
		"u8":              "var:u8@0",
		"f()":             "call:f@0",
		"f(a)":            "call:f@0(var:a@2)",
		"f(a,)":           "call:f@0(var:a@2)",
		"f(a, 2)":         "call:f@0(var:a@2 int#2@5)",
		"f(a, 2,)":        "call:f@0(var:a@2 int#2@5)",
		"f((a), g(-b))":   "call:f@0(var:a@3 call:g@7(neg@9(var:b@10)))",
		"_(_)":            "call:_@0(var:_@2)",
		"E::V":            "variant:E::V@0",
		"E :: V":          "variant:E::V@0",
		"E::V()":          "variant:E::V@0",
		"E::V(1)":         "variant:E::V@0(int#1@5)",
		"E::V(1, x,)":     "variant:E::V@0(int#1@5 var:x@8)",
		"_::_":            "variant:_::_@0",
		"Box::new(1)":     "variant:Box::new@0(int#1@9)",
		"S {}":            "struct:S@0",
		"S { a: 1 }":      "struct:S@0(init:a@4(int#1@7))",
		"S { a: 1, }":     "struct:S@0(init:a@4(int#1@7))",
		"S{_:1,b:T{c:2}}": "struct:S@0(init:_@2(int#1@4) init:b@6(struct:T@8(init:c@10(int#2@12))))",
		"_ {}":            "struct:_@0",
		"[]":              "array@0",
		"[1]":             "array@0(int#1@1)",
		"[1,]":            "array@0(int#1@1)",
		"[1, x]":          "array@0(int#1@1 var:x@4)",
		"[1, x,]":         "array@0(int#1@1 var:x@4)",
		"[x; 3]":          "repeat#3@0(var:x@1)",
		"[1u8; 0]":        "repeat@0(int:u8#1@1)",
		"[[]; 65535]":     "repeat#65535@0(array@1)",
		"{}":              "block@0",
		"{ x }":           "block#1@0(var:x@2)",
		"{ x; }":          "block@0(stmt@2(var:x@2))",
	} {
		wantTree(t, text, want)
	}
}

func TestTreeTellsOperands(t *testing.T) {
	for text, want := range map[string]string{
		"-x":                      "neg@0(var:x@1)",
		"-1":                      "neg@0(int#1@1)",
		"-1i8":                    "neg@0(int:i8#1@1)",
		"--1":                     "neg@0(neg@1(int#1@2))",
		"!x":                      "not@0(var:x@1)",
		"*x":                      "deref@0(var:x@1)",
		"&x":                      "borrow@0(var:x@1)",
		"&mut x":                  "borrow#1@0(var:x@5)",
		"& &mut x":                "borrow@0(borrow#1@2(var:x@7))",
		"!-*&x":                   "not@0(neg@1(deref@2(borrow@3(var:x@4))))",
		"a.b":                     "field:b@1(var:a@0)",
		"a . _":                   "field:_@2(var:a@0)",
		"a[i]":                    "index@1(var:a@0 var:i@2)",
		"a [(i)]":                 "index@2(var:a@0 var:i@4)",
		"a.b[0].c":                "field:c@6(index@3(field:b@1(var:a@0) int@4))",
		"a[0][1]":                 "index@4(index@1(var:a@0 int@2) int#1@5)",
		"a[b[c]]":                 "index@1(var:a@0 index@3(var:b@2 var:c@4))",
		"f(x).y":                  "field:y@4(call:f@0(var:x@2))",
		"E::V.y":                  "field:y@4(variant:E::V@0)",
		"S{}.y":                   "field:y@3(struct:S@0)",
		"[1][0]":                  "index@3(array@0(int#1@1) int@4)",
		"1.y":                     "field:y@1(int#1@0)",
		"().y":                    "field:y@2(unit@0)",
		"(a).b":                   "field:b@3(var:a@1)",
		"(a + b).c":               "field:c@7(bin:+@3(var:a@1 var:b@5))",
		"{a}.b":                   "field:b@3(block#1@0(var:a@1))",
		"if a {b} else {c}[0]":    "index@17(if@0(var:a@3 block#1@5(var:b@6) block#1@14(var:c@15)) int@18)",
		"match a {}.b":            "field:b@10(match@0(var:a@6))",
		"-x.y":                    "neg@0(field:y@2(var:x@1))",
		"*x[0]":                   "deref@0(index@2(var:x@1 int@3))",
		"(*x)[0]":                 "index@4(deref@1(var:x@2) int@5)",
		"-{ 1 }":                  "neg@0(block#1@1(int#1@3))",
		"&if a {}":                "borrow@0(if@1(var:a@4 block@6))",
		"a.b.c":                   "field:c@3(field:b@1(var:a@0))",
		"if a { b } else { c }.d": "field:d@21(if@0(var:a@3 block#1@5(var:b@7) block#1@16(var:c@18)))",
	} {
		wantTree(t, text, want)
	}
}

// Each row is one rank, those that bind least first.
var rankSigns = []string{"||", "&&", "== != < <= > >=", "|", "^", "&", "<< >>", "+ -", "* / %"}

func TestTreeTellsEachTwoSignsSideBySide(t *testing.T) {
	for one, row := range rankSigns {
		for _, first := range strings.Fields(row) {
			wantTree(t, "a"+first+"b", "bin:"+first+"@1(var:a@0 var:b@"+strconv.Itoa(1+len(first))+")")
			for other, row := range rankSigns {
				for _, second := range strings.Fields(row) {
					wantTwoSigns(t, first, second, one, other)
				}
			}
		}
	}
}

func wantTwoSigns(t *testing.T, first, second string, one, other int) {
	t.Helper()
	text := "a " + first + " b " + second + " c"
	b := 3 + len(first)
	at := strconv.Itoa
	switch {
	case one == 2 && other == 2:
		wantTreeFault(t, text, b+2, api.ErrParse)
	case one >= other:
		wantTree(t, text, "bin:"+second+"@"+at(b+2)+"(bin:"+first+"@2(var:a@0 var:b@"+at(b)+") var:c@"+at(b+3+len(second))+")")
	default:
		wantTree(t, text, "bin:"+first+"@2(var:a@0 bin:"+second+"@"+at(b+2)+"(var:b@"+at(b)+" var:c@"+at(b+3+len(second))+"))")
	}
}

func TestTreeTellsAllRanksAtOnce(t *testing.T) {
	wantTree(t, "a||b&&c==d|e^f&g<<h+i*j as u8",
		"bin:||@1(var:a@0 bin:&&@4(var:b@3 bin:==@7(var:c@6 bin:|@10(var:d@9 bin:^@12(var:e@11 bin:&@14(var:f@13 bin:<<@16(var:g@15 bin:+@19(var:h@18 bin:*@21(var:i@20 cast@24<u8>(var:j@22))))))))))")
	wantTree(t, "a as u8*b+c<<d&e^f|g==h&&i||j",
		"bin:||@26(bin:&&@23(bin:==@20(bin:|@18(bin:^@16(bin:&@14(bin:<<@11(bin:+@9(bin:*@7(cast@2<u8>(var:a@0) var:b@8) var:c@10) var:d@13) var:e@15) var:f@17) var:g@19) var:h@22) var:i@25) var:j@28)")
	wantTree(t, "a < b && c < d || (e == f) == g",
		"bin:||@15(bin:&&@6(bin:<@2(var:a@0 var:b@4) bin:<@11(var:c@9 var:d@13)) bin:==@27(bin:==@21(var:e@19 var:f@24) var:g@30))")
	wantTree(t, "a - b - c - d", "bin:-@10(bin:-@6(bin:-@2(var:a@0 var:b@4) var:c@8) var:d@12)")
	wantTree(t, "a - (b - c)", "bin:-@2(var:a@0 bin:-@7(var:b@5 var:c@9))")
	wantTree(t, "-a - -b", "bin:-@3(neg@0(var:a@1) neg@5(var:b@6))")
	wantTree(t, "a & &b", "bin:&@2(var:a@0 borrow@4(var:b@5))")
	wantTree(t, "a * *b", "bin:*@2(var:a@0 deref@4(var:b@5))")
}

func TestTreeTellsCasts(t *testing.T) {
	for text, want := range map[string]string{
		"x as u8":                "cast@2<u8>(var:x@0)",
		"-x as i8":               "cast@3<i8>(neg@0(var:x@1))",
		"-(x as i8)":             "neg@0(cast@4<i8>(var:x@2))",
		"x as u8 as u16":         "cast@8<u16>(cast@2<u8>(var:x@0))",
		"2 * x as u8":            "bin:*@2(int#2@0 cast@6<u8>(var:x@4))",
		"x as u8 < y":            "bin:<@8(cast@2<u8>(var:x@0) var:y@10)",
		"x as u8 << 1":           "bin:<<@8(cast@2<u8>(var:x@0) int#1@11)",
		"(x as S).a":             "field:a@8(cast@3<named:S>(var:x@1))",
		"if a {} else {} as ()":  "cast@16<unit>(if@0(var:a@3 block@5 block@13))",
		"x as Box<u8> > y":       "bin:>@13(cast@2<box(u8)>(var:x@0) var:y@15)",
		"x as Box<u8> >> y":      "bin:>>@13(cast@2<box(u8)>(var:x@0) var:y@16)",
		"x as Box<u8>> y":        "bin:>@12(cast@2<box(u8)>(var:x@0) var:y@14)",
		"x as Box<Box<u8>>>> y":  "bin:>>@17(cast@2<box(box(u8))>(var:x@0) var:y@20)",
		"x as Box<Box<u8>>> y":   "bin:>@17(cast@2<box(box(u8))>(var:x@0) var:y@19)",
		"x as Box<Box<u8>>as u8": "cast@17<u8>(cast@2<box(box(u8))>(var:x@0))",
	} {
		wantTree(t, text, want)
	}
}

func TestTreeTellsTypes(t *testing.T) {
	for text, want := range map[string]string{
		"bool": "bool", "i8": "i8", "i16": "i16", "i32": "i32", "u8": "u8", "u16": "u16", "u32": "u32",
		"()": "unit", "( )": "unit", "S": "named:S", "_": "named:_", "i64": "named:i64", "u": "named:u", "box": "named:box",
		"Box<u8>":                  "box(u8)",
		"Box < S >":                "box(named:S)",
		"Box<Box<u8>>":             "box(box(u8))",
		"Box<Box<u8> >":            "box(box(u8))",
		"Box<Box<Box<u8>>>":        "box(box(box(u8)))",
		"Box<Box<Box<u8> >>":       "box(box(box(u8)))",
		"Box<Box<Box<Box<()>>>>":   "box(box(box(box(unit))))",
		"Box<[Box<Box<u8>>; 2]>":   "box(array#2(box(box(u8))))",
		"[u8; 3]":                  "array#3(u8)",
		"[u8; 0]":                  "array(u8)",
		"[u8; 65535]":              "array#65535(u8)",
		"[[S; 1]; 2]":              "array#2(array#1(named:S))",
		"&u8":                      "ref(u8)",
		"&mut u8":                  "mut(u8)",
		"& &mut S":                 "ref(mut(named:S))",
		"&mut [Box<&mut bool>; 9]": "mut(array#9(box(mut(bool))))",
	} {
		wantTree(t, "x as "+text, "cast@2<"+want+">(var:x@0)")
	}
}

func TestTreeTellsIfsAndMatches(t *testing.T) {
	for text, want := range map[string]string{
		"if a { 1 }":                                 "if@0(var:a@3 block#1@5(int#1@7))",
		"if a {} else { 2 }":                         "if@0(var:a@3 block@5 block#1@13(int#2@15))",
		"if a {} else if b {}":                       "if@0(var:a@3 block@5 if@13(var:b@16 block@18))",
		"if a {} else if b {} else {}":               "if@0(var:a@3 block@5 if@13(var:b@16 block@18 block@26))",
		"if a {} else if b {} else if c {} else {1}": "if@0(var:a@3 block@5 if@13(var:b@16 block@18 if@26(var:c@29 block@31 block#1@39(int#1@40))))",
		"if a { 1 } else { 2 } + 3":                  "bin:+@22(if@0(var:a@3 block#1@5(int#1@7) block#1@16(int#2@18)) int#3@24)",
		"1 + if a { 1 } else { 2 }":                  "bin:+@2(int#1@0 if@4(var:a@7 block#1@9(int#1@11) block#1@20(int#2@22)))",
		"{ 1 } + { 2 }":                              "bin:+@6(block#1@0(int#1@2) block#1@8(int#2@10))",
		"if {} {}":                                   "if@0(block@3 block@6)",
		"if if a {b} else {c} {d}":                   "if@0(if@3(var:a@6 block#1@8(var:b@9) block#1@17(var:c@18)) block#1@21(var:d@22))",
		"match x {}":                                 "match@0(var:x@6)",
		"match x { _ => 1 }":                         "match@0(var:x@6 arm@10(any@10 int#1@15))",
		"match x { _ => 1, }":                        "match@0(var:x@6 arm@10(any@10 int#1@15))",
		"match x { 1 => a, -2 => b }":                "match@0(var:x@6 arm@10(paint#1@10 var:a@15) arm@18(paint#-2@18 var:b@24))",
		"match x { 1u8 => a, -  2i8 => b, }":         "match@0(var:x@6 arm@10(paint#1@10 var:a@17) arm@20(paint#-2@20 var:b@30))",
		"match x { -0 => a, 4294967295 => b }":       "match@0(var:x@6 arm@10(paint@10 var:a@16) arm@19(paint#4294967295@19 var:b@33))",
		"match x { true => a, false => b }":          "match@0(var:x@6 arm@10(pabool#1@10 var:a@18) arm@21(pabool@21 var:b@30))",
		"match x { A::B => a, A::C() => b }":         "match@0(var:x@6 arm@10(pavariant:A::B@10 var:a@18) arm@21(pavariant:A::C@21 var:b@31))",
		"match x { A :: B(c) => c }":                 "match@0(var:x@6 arm@10(pavariant:A::B@10(bind:c@17) var:c@23))",
		"match x { A::B(c, _,) => c }":               "match@0(var:x@6 arm@10(pavariant:A::B@10(bind:c@15 bind:_@18) var:c@25))",
		"match x { _ => {} + 1, _ => (2) }":          "match@0(var:x@6 arm@10(any@10 bin:+@18(block@15 int#1@20)) arm@23(any@23 int#2@29))",
		"match x { _ => if a {} else {}.b }":         "match@0(var:x@6 arm@10(any@10 field:b@30(if@15(var:a@18 block@20 block@28))))",
		"match match a {} {}":                        "match@0(match@6(var:a@12))",
		"match (x) { _ => S { a: 1 } }":              "match@0(var:x@7 arm@12(any@12 struct:S@17(init:a@21(int#1@24))))",
	} {
		wantTree(t, text, want)
	}
}

func TestTreeTellsConds(t *testing.T) {
	for text, want := range map[string]string{
		"if S {}":                          "if@0(var:S@3 block@5)",
		"if S { a }":                       "if@0(var:S@3 block#1@5(var:a@7))",
		"if a == S {}":                     "if@0(bin:==@5(var:a@3 var:S@8) block@10)",
		"if -S {}":                         "if@0(neg@3(var:S@4) block@6)",
		"if a as S {}":                     "if@0(cast@5<named:S>(var:a@3) block@10)",
		"if A::S {}":                       "if@0(variant:A::S@3 block@8)",
		"if a.S {}":                        "if@0(field:S@4(var:a@3) block@7)",
		"if f() {}":                        "if@0(call:f@3 block@7)",
		"if (S {}) {}":                     "if@0(struct:S@4 block@10)",
		"if (S { a: 1 }) == S {}":          "if@0(bin:==@16(struct:S@4(init:a@8(int#1@11)) var:S@19) block@21)",
		"if f(S {}) {}":                    "if@0(call:f@3(struct:S@5) block@11)",
		"if E::f(S {}) {}":                 "if@0(variant:E::f@3(struct:S@8) block@14)",
		"if [S {}] {}":                     "if@0(array@3(struct:S@4) block@10)",
		"if [S {}; 1] {}":                  "if@0(repeat#1@3(struct:S@4) block@13)",
		"if a[S {}] {}":                    "if@0(index@4(var:a@3 struct:S@5) block@11)",
		"if { S {} } {}":                   "if@0(block#1@3(struct:S@5) block@12)",
		"if { S {}; S {} } {}":             "if@0(block#1@3(stmt@5(struct:S@5) struct:S@11) block@18)",
		"if match S { _ => S {} } {}":      "if@0(match@3(var:S@9 arm@13(any@13 struct:S@18)) block@25)",
		"if if S {} else { S {} } {}":      "if@0(if@3(var:S@6 block@8 block#1@16(struct:S@18)) block@25)",
		"if (if S {} else {}) {}":          "if@0(if@4(var:S@7 block@9 block@17) block@21)",
		"if f(a) == S { S {} }":            "if@0(bin:==@8(call:f@3(var:a@5) var:S@11) block#1@13(struct:S@15))",
		"if a {} else { S {} }":            "if@0(var:a@3 block@5 block#1@13(struct:S@15))",
		"match S {}":                       "match@0(var:S@6)",
		"match S { _ => S {} }":            "match@0(var:S@6 arm@10(any@10 struct:S@15))",
		"match (S {}) {}":                  "match@0(struct:S@7)",
		"(if a {} else {}) == S {}":        "bin:==@18(if@1(var:a@4 block@6 block@14) struct:S@21)",
		"if a {} else {} == S {}":          "bin:==@16(if@0(var:a@3 block@5 block@13) struct:S@19)",
		"{ while S {} S {} }":              "block#1@0(while@2(var:S@8 block@10) struct:S@13)",
		"{ while (S {}) { S {}; } }":       "block@0(while@2(struct:S@9 block@15(stmt@17(struct:S@17))))",
		"if { while S {} S {} }.a == S {}": "if@0(bin:==@25(field:a@22(block#1@3(while@5(var:S@11 block@13) struct:S@16)) var:S@28) block@30)",
	} {
		wantTree(t, text, want)
	}
}

// P3.1: programs

func TestParseTellsItems(t *testing.T) {
	for text, want := range map[string]string{
		"":                   "",
		" // nothing\n":      "",
		"fn f() {}":          "fn:f@3->unit block@7",
		" fn _ ( ) { }":      "fn:_@4->unit block@10",
		"fn f() -> () {}":    "fn:f@3->unit block@13",
		"fn f() -> u8 { 1 }": "fn:f@3->u8 block#1@13(int#1@15)",
		"fn f(a: u8) {}":     "fn:f@3(a@5<u8>)->unit block@12",
		"fn f(a: u8,) {}":    "fn:f@3(a@5<u8>)->unit block@13",
		"fn f(mut a: S, _: &mut S) -> Box<Box<S>> {}": "fn:f@3(mut:a@9<named:S> _@15<mut(named:S)>)->box(box(named:S)) block@41",
		"fn f(a: u8, mut  b: u8,) {}":                 "fn:f@3(a@5<u8> mut:b@17<u8>)->unit block@25",
		"struct S {}":                                 "struct:S@7",
		"struct S { a: u8 }":                          "struct:S@7(a@11<u8>)",
		"struct S { a: u8, }":                         "struct:S@7(a@11<u8>)",
		"struct _{a:u8,b:Box<Box<_>>}":                "struct:_@7(a@9<u8> b@14<box(box(named:_))>)",
		"enum E {}":                                   "enum:E@5",
		"enum E { A }":                                "enum:E@5{A@9}",
		"enum E { A, B(), C(u8), D(u8, S,), }":        "enum:E@5{A@9 B@12 C@17<u8> D@24<u8 named:S>}",
		"enum _ { _(_) }":                             "enum:_@5{_@9<named:_>}",
		"const C: u8 = 1;":                            "const:C#1@6->u8",
		"const C: u8 = 0;":                            "const:C@6->u8",
		"const C: i8 = -1;":                           "const:C#-1@6->i8",
		"const _: S = - 4294967295u8;":                "const:_#-4294967295@6->named:S",
		"const C: u8 = 4294967295;":                   "const:C#4294967295@6->u8",
		"const C: Box<Box<u8>> = 7;":                  "const:C#7@6->box(box(u8))",
		"fn f() {} struct S {} enum E {}\nconst C: u8 = 2; fn f() {}": "fn:f@3->unit block@7 struct:S@17 enum:E@27 const:C#2@38->u8 fn:f@52->unit block@56",
	} {
		wantItems(t, text, want)
	}
}

func TestParseTellsStatements(t *testing.T) {
	for text, want := range map[string]string{
		"{}":                                 "block@7",
		"{ 1 }":                              "block#1@7(int#1@9)",
		"{ 1; }":                             "block@7(stmt@9(int#1@9))",
		"{ a + b; }":                         "block@7(stmt@9(bin:+@11(var:a@9 var:b@13)))",
		"{ (a); }":                           "block@7(stmt@9(var:a@10))",
		"{ (a) }":                            "block#1@7(var:a@10)",
		"{ a.b; c }":                         "block#1@7(stmt@9(field:b@10(var:a@9)) var:c@14)",
		"{ let a = 1; }":                     "block@7(let:a@9(int#1@17))",
		"{ let mut a = 1; }":                 "block@7(let:a#1@9(int#1@21))",
		"{ let a: u8 = 1; }":                 "block@7(let:a@9<u8>(int#1@21))",
		"{ let mut _: Box<Box<S>> = x; a }":  "block#1@7(let:_#1@9<box(box(named:S))>(var:x@34) var:a@37)",
		"{ let a: [u8; 2] = [0; 2]; }":       "block@7(let:a@9<array#2(u8)>(repeat#2@26(int@27)))",
		"{ let a = if b {1} else {2} + 3; }": "block@7(let:a@9(bin:+@35(if@17(var:b@20 block#1@22(int#1@23) block#1@31(int#2@32)) int#3@37)))",
		"{ let a = {} ; }":                   "block@7(let:a@9(block@17))",
		"{ while a {} }":                     "block@7(while@9(var:a@15 block@17))",
		"{ while a {} b }":                   "block#1@7(while@9(var:a@15 block@17) var:b@20)",
		"{ while {} {} {} }":                 "block#1@7(while@9(block@15 block@18) block@21)",
		"{ loop {} }":                        "block@7(loop@9(block@14))",
		"{ loop { break; continue; } }":      "block@7(loop@9(block@14(break@16 next@23)))",
		"{ loop {} -1 }":                     "block#1@7(loop@9(block@14) neg@17(int#1@18))",
		"{ return; }":                        "block@7(return@9)",
		"{ return 1; }":                      "block@7(return@9(int#1@16))",
		"{ return if a {} else {}.b; }":      "block@7(return@9(field:b@31(if@16(var:a@19 block@21 block@29))))",
		"{ a = 1; }":                         "block@7(assign@11(var:a@9 int#1@13))",
		"{ *a.b[0] = c == d; }":              "block@7(assign@17(deref@9(index@13(field:b@11(var:a@10) int@14)) bin:==@21(var:c@19 var:d@24)))",
		"{ (a) = {} + {}; }":                 "block@7(assign@13(var:a@10 bin:+@18(block@15 block@20)))",
		"{ a + b = S {}; }":                  "block@7(assign@15(bin:+@11(var:a@9 var:b@13) struct:S@17))",
		"{ x {} }":                           "block#1@7(struct:x@9)",
		"{ x {}; }":                          "block@7(stmt@9(struct:x@9))",
	} {
		wantBody(t, text, want)
	}
}

func TestParseTellsClosedStatements(t *testing.T) {
	for text, want := range map[string]string{
		"{ if a {} }":               "block#1@7(if@9(var:a@12 block@14))",
		"{ if a {}; }":              "block@7(stmt@9(if@9(var:a@12 block@14)))",
		"{ if a {} else {} }":       "block#1@7(if@9(var:a@12 block@14 block@22))",
		"{ if a {} b }":             "block#1@7(stmt@9(if@9(var:a@12 block@14)) var:b@17)",
		"{ if a {}; b }":            "block#1@7(stmt@9(if@9(var:a@12 block@14)) var:b@18)",
		"{ if a {} b; }":            "block@7(stmt@9(if@9(var:a@12 block@14)) stmt@17(var:b@17))",
		"{ if a {} -1 }":            "block#1@7(stmt@9(if@9(var:a@12 block@14)) neg@17(int#1@18))",
		"{ if a {} *b = 1; }":       "block@7(stmt@9(if@9(var:a@12 block@14)) assign@20(deref@17(var:b@18) int#1@22))",
		"{ if a {} &b; }":           "block@7(stmt@9(if@9(var:a@12 block@14)) stmt@17(borrow@17(var:b@18)))",
		"{ if a {} (b) }":           "block#1@7(stmt@9(if@9(var:a@12 block@14)) var:b@18)",
		"{ if a {} [b] }":           "block#1@7(stmt@9(if@9(var:a@12 block@14)) array@17(var:b@18))",
		"{ if a {} {} }":            "block#1@7(stmt@9(if@9(var:a@12 block@14)) block@17)",
		"{ if a {} if b {} }":       "block#1@7(stmt@9(if@9(var:a@12 block@14)) if@17(var:b@20 block@22))",
		"{ if a {} else {} !b }":    "block#1@7(stmt@9(if@9(var:a@12 block@14 block@22)) not@25(var:b@26))",
		"{ if a {} let b = 1; }":    "block@7(stmt@9(if@9(var:a@12 block@14)) let:b@17(int#1@25))",
		"{ match a {} }":            "block#1@7(match@9(var:a@15))",
		"{ match a {}; }":           "block@7(stmt@9(match@9(var:a@15)))",
		"{ match a {} -b }":         "block#1@7(stmt@9(match@9(var:a@15)) neg@20(var:b@21))",
		"{ {} }":                    "block#1@7(block@9)",
		"{ {}; }":                   "block@7(stmt@9(block@9))",
		"{ {} {} }":                 "block#1@7(stmt@9(block@9) block@12)",
		"{ {1} -1 }":                "block#1@7(stmt@9(block#1@9(int#1@10)) neg@13(int#1@14))",
		"{ { 1 }; { 2 } }":          "block#1@7(stmt@9(block#1@9(int#1@11)) block#1@16(int#2@18))",
		"{ ({ 1 }).a }":             "block#1@7(field:a@16(block#1@10(int#1@12)))",
		"{ -{ 1 } + 2 }":            "block#1@7(bin:+@16(neg@9(block#1@10(int#1@12)) int#2@18))",
		"{ (if a {} else {}) + 1 }": "block#1@7(bin:+@27(if@10(var:a@13 block@15 block@23) int#1@29))",
		"{ a = if b {} else {}; }":  "block@7(assign@11(var:a@9 if@13(var:b@16 block@18 block@26)))",
	} {
		wantBody(t, text, want)
	}
}

// P3.1: faults. An @ marks the fault's place; it is taken out ahead of the call.

func marked(text string) (string, int) {
	at := strings.Index(text, "@")
	return strings.Replace(text, "@", "", 1), at
}

func TestTreeRefusesWhatMayNotStandThere(t *testing.T) {
	for _, text := range []string{
		"@", "  @", "// x@", "1 @2", "1i32 @2", "a @b", "a @= b", "a @;", "@;", "@,", "@)", "@]", "@}", "@:", "@::", "@.a", "@=", "@=>", "@->",
		"@+ 1", "@/ 1", "@% 1", "@| 1", "@|| 1", "@^ 1", "@< 1", "@> 1", "@== 1", "@!= 1", "@<< 1", "@>> 1", "@&& 1", "@&&x", "- @-> x",
		"@fn", "@struct", "@enum", "@const", "@let", "@mut x", "@else", "@while", "@loop", "@break", "@continue", "@return", "@as u8",
		"1 + @", "1 + @+ 2", "1 + @) ", "1 + @as", "- @", "! @}", "* @,", "& @", "&mut @", "&mut @mut x", "& @&& x", "-@mut x", "1 @! 2", "1 @true",
		"a < b @< c", "a == b @== c", "a < b @> c", "a != b @>= c + 1", "a <= b + c @== d", "a < b && c < d @< e", "(a < b @< c)",
		"a.@", "a.@1", "a.@true", "a.@.b", "a.@(b)", "a.@[b]", "a.b@(c)", "a::@", "a[@]", "a[@", "a[b@", "a[b@, c]", "a[b@; c]", "a[b@)",
		"(@", "(a@", "(a@, b)", "(a@]", "(@, a)", "(@;", "()@()", "()@1", "f(@", "f(@,)", "f(a@", "f(a,@", "f(a,@,)", "f(a @b)", "f(a@; b)", "f(a@]",
		"f()@()", "f(a@: ", "E::@", "E::@1", "E::@(a)", "E::@::F", "E::F@::G", "E::F@{}", "E::F(@", "E::F(@,)", "E::F(a @b)", "E::F(a)@(b)", "E::F@::",
		"S {@", "S { @1 }", "S { a @}", "S { a@, }", "S { a @= 1 }", "S { a: @}", "S { a: 1 @", "S { a: 1@; }", "S { a: 1 @b: 2 }", "S { a: 1,@, }", "S { @, }", "S { @true: 1 }", "S {@)",
		"[@", "[@,]", "[@;]", "[@; 1]", "[1@", "[1, @", "[1,@,]", "[1 @2]", "[1@)", "[1; @]", "[1; @x]", "[1; @-1]", "[1; 2@", "[1; 2@, 3]", "[1; 2@,]", "[1; 2@; 3]", "[1, 2@; 3]", "[1,@; 3]", "[1; @(2)]", "[1; @true]",
		"x as @", "x as @1", "x as @-1", "x as @*u8", "x as @true", "x as @mut u8", "x as @{}", "x as @as u8", "x as u8@(1)", "x as u8@.a", "x as u8@[0]", "x as u8 @u8", "x as S @{}", "x as S@::T",
		"x as (@u8)", "x as (@", "x as [@]", "x as [u8@]", "x as [u8@, 2]", "x as [u8; @]", "x as [u8; @n]", "x as [u8; @-1]", "x as [u8; 1@", "x as [u8; 1@; 2]", "x as [@1; 2]", "x as [u8; 1@)",
		"x as &@", "x as &@1", "x as &mut @", "x as &mut @mut u8", "x as @&&u8", "x as @&&&u8", "x as &mut @&&u8",
		"x as Box@", "x as Box @+ 1", "x as Box@(u8)", "x as Box@::T", "x as Box@<<u8>", "x as Box@<=u8", "x as Box<@", "x as Box<@>", "x as Box<@>>", "x as Box<@1>", "x as Box<u8@", "x as Box<u8@, u8>", "x as Box<u8@<", "x as Box<u8@>= y", "x as Box<u8@)", "x as Box<u8>@u8", "x as Box<Box<u8@>=", "x as Box<Box<u8>@", "x as Box<Box<u8>@)",
		"x as Box<u8>>@", "x as Box<u8>>@>y", "x as Box<u8>> y @< z", "(x as Box<u8>>@)", "f(x as Box<u8>>@, 1)", "y < x as Box<u8>@> z", "x as [Box<u8>@>; 2]", "x as Box<Box<u8>>@)",
		"if@", "if @else", "if @;", "if @)", "if a@", "if a @else", "if a @;", "if a @b", "if a @= b {}", "if a {@", "if a {} else@", "if a {} else @1", "if a {} else @(b)", "if a {} else @else", "if a {} else @match b {}", "if a {} else if@", "if a {} else if b@", "if a {} else {} @else {}", "if a {} else {@", "if a {} @b", "if a {} @{}", "if a {} @if b {}", "if x { 1 } else @2",
		"if S { a@: 1 } {}", "if S {} @{}", "if S { a@, }", "if a == S { b@: 1 }", "if -S { a@: 1 }", "if (a) == S { b@: 1 }", "if f(S {}) == S { b@: 1 }", "if { S {} } == S { b@: 1 }", "if match S { a@: 1 }", "if (if S { a@: 1 })", "match S { a@: 1 }", "if a[S {}] == S { a@: 1 }", "if match a { _ => S {} } == S { b@: 1 }",
		"match@", "match @}", "match a@", "match a @;", "match a {@", "match a { @=> 1 }", "match a { @, }", "match a { _ @}", "match a { _ => @}", "match a { _ => @, }", "match a { _ => 1 @", "match a { _ => 1 @_ => 2 }", "match a { _ => {} @_ => {} }", "match a { _ => 1@; }", "match a { _ => 1,@, }", "match a { _ => a @= b }", "match a { _ => @return }", "match a { _ @-> 1 }", "match a { _ @= 1 }",
		"match a { _@::B => 1 }", "match a { A::@_ => 1 }", "match a { _@(b) => 1 }", "match a { b @=> 1 }", "match a { Box @=> 1 }", "match a { B@(c) => 1 }", "match a { A::@1 => 1 }", "match a { A::B@::C => 1 }", "match a { A::B(@1) => 1 }", "match a { A::B(@,) => 1 }", "match a { A::B(c @d) => 1 }", "match a { A::B(c@::D) => 1 }", "match a { A::B(@mut c) => 1 }", "match a { A::B@{} => 1 }", "match a { A::B(@-1) => 1 }", "match a { A::B(c,@,) => 1 }",
		"match a { - @", "match a { -@x => 1 }", "match a { -@-1 => 1 }", "match a { -@true => 1 }", "match a { 1 @+ 1 => 1 }", "match a { 1 @| 2 => 1 }", "match a { 1@.b => 1 }", "match a { true @false => 1 }", "match a { @(1) => 1 }", "match a { @!1 => 1 }", "match a { @() => 1 }", "match a { @if b => 1 }", "match a { _ @if b => 1 }", "match a { @[b] => 1 }", "match a { @&b => 1 }",
		"{@", "{ @; }", "{ a @b }", "{ a@: u8 }", "{ 1; @; }", "{ @) }", "{ @fn f() {} }", "{ a; @else {} }", "{}@;", "{}@{}", "{ {}@.a }", "{ @mut a }",
	} {
		bare, at := marked(text)
		wantTreeFault(t, bare, at, api.ErrParse)
	}
}

func TestParseRefusesWhatMayNotStandThere(t *testing.T) {
	for _, text := range []string{
		"@1", "@x", "@;", "@{}", "@let a = 1;", "@mut", "@)", "fn f() {} @;", "fn f() {} @}", "fn f() {} @x", "struct S {}@;", "const C: u8 = 1; @;",
		"fn@", "fn @1() {}", "fn @fn() {}", "fn @() {}", "fn f@", "fn f @{}", "fn f@<T>() {}", "fn f(@", "fn f(@,) {}", "fn f(@1: u8) {}", "fn f(a@) {}", "fn f(a@, b: u8) {}", "fn f(a: @) {}", "fn f(a: u8@", "fn f(a: u8 @b: u8) {}", "fn f(a: u8,@,) {}", "fn f(a: u8@; b: u8) {}", "fn f(mut@", "fn f(mut @mut a: u8) {}", "fn f(mut @1: u8) {}", "fn f(mut @) {}", "fn f(@&a: u8) {}", "fn f(a: @mut u8) {}", "fn f(a: u8@} {}", "fn f(a @= 1) {}",
		"fn f()@", "fn f()@;", "fn f() @1", "fn f() @=> u8 {}", "fn f() @: u8 {}", "fn f() -> @{}", "fn f() -> @-> u8 {}", "fn f() -> u8@", "fn f() -> u8@;", "fn f() -> u8 @-> u8 {}", "fn f() -> S {@", "fn f() -> S { a@: 1 }", "fn f() -> Box<S>@> {}", "fn f() -> Box<S@>= {}",
		"struct@", "struct @1 {}", "struct @{}", "struct S@", "struct S@;", "struct S@() {}", "struct S {@", "struct S { @, }", "struct S { @1: u8 }", "struct S { @mut a: u8 }", "struct S { a @}", "struct S { a@, b: u8 }", "struct S { a: @}", "struct S { a: @1 }", "struct S { a: u8@", "struct S { a: u8@; b: u8 }", "struct S { a: u8 @b: u8 }", "struct S { a: u8,@, }", "struct S { a @= u8 }", "struct S { a: u8 @= 1 }", "struct S { a: u8@)",
		"enum@", "enum @1 {}", "enum @{}", "enum E@", "enum E@;", "enum E@(A)", "enum E {@", "enum E { @, }", "enum E { @1 }", "enum E { A@", "enum E { A @B }", "enum E { A,@, }", "enum E { A@; }", "enum E { A @= 1 }", "enum E { A@: u8 }", "enum E { A @{} }", "enum E { A@::B }", "enum E { A(@", "enum E { A(@,) }", "enum E { A(@1) }", "enum E { A(u8@", "enum E { A(u8 @u8) }", "enum E { A(u8,@,) }", "enum E { A(u8@} }", "enum E { A(a@: u8) }", "enum E { A(u8)@(u8) }",
		"const@", "const @1: u8 = 1;", "const @: u8 = 1;", "const @mut C: u8 = 1;", "const C@", "const C @= 1;", "const C: @= 1;", "const C: @1 = 1;", "const C: u8@", "const C: u8@;", "const C: u8 @1;", "const C: u8 =@", "const C: u8 = @;", "const C: u8 = @x;", "const C: u8 = @true;", "const C: u8 = @(1);", "const C: u8 = -@", "const C: u8 = -@x;", "const C: u8 = -@-1;", "const C: u8 = @!1;", "const C: u8 = 1@", "const C: u8 = 1 @+ 1;", "const C: u8 = 1 @2;", "const C: u8 = 1@}", "const C: u8 = 1 @as u8;", "const C: Box<u8@>= 1;", "const C: Box<u8>@> = 1;",
	} {
		bare, at := marked(text)
		wantFault(t, bare, at, api.ErrParse)
	}
}

func TestParseRefusesStatements(t *testing.T) {
	for _, text := range []string{
		"{@", "{ @;", "{ @=", "{ @)", "{ @]", "{ @,", "{ @fn", "{ @else", "{ @mut", "{ @as", "{ @struct", "{ @const", "{ 1@", "{ 1 @2", "{ 1;@", "{ a @b; }",
		"{ let@", "{ let @= 1; }", "{ let @1 = 1; }", "{ let @true = 1; }", "{ let mut@", "{ let mut @mut a = 1; }", "{ let mut @= 1; }", "{ let a@", "{ let a@; }", "{ let a @1; }", "{ let a@, b = 1; }", "{ let a @== 1; }", "{ let a: @= 1; }", "{ let a: @1 = 1; }", "{ let a: u8@", "{ let a: u8@; }", "{ let a: u8 @1; }", "{ let a =@", "{ let a = @; }", "{ let a = @let b = 1; }", "{ let a = @loop {} }", "{ let a = 1@", "{ let a = 1 @}", "{ let a = 1@, b = 2; }", "{ let a = b @= c; }", "{ let a: Box<u8@>= b; }", "{ let a: Box<u8>@> = b; }", "{ let A@::B = 1; }", "{ let @(a) = 1; }", "{ let a = if b {} @let", "{ let a = {} @}",
		"{ while@", "{ while @;", "{ while a@", "{ while a@;", "{ while a @b", "{ while a {@", "{ while a {}@; }", "{ while a {} @+ 1 }", "{ while S { a@: 1 } {} }", "{ while a {}@.b }", "{ while @while", "{ while a @= b {} }", "{ while {} @}",
		"{ loop@", "{ loop @;", "{ loop @a {} }", "{ loop @1", "{ loop {@", "{ loop {}@; }", "{ loop {} @= 1; }", "{ loop {}@.b }",
		"{ break@", "{ break @}", "{ break @1; }", "{ break @a; }", "{ break;@; }", "{ continue@", "{ continue @}", "{ continue @1; }",
		"{ return@", "{ return @}", "{ return @return; }", "{ return 1@", "{ return 1 @}", "{ return 1 @2; }", "{ return a @= 1; }", "{ return @let a = 1; }", "{ return @)",
		"{ a =@", "{ a = @; }", "{ a = 1@", "{ a = 1 @}", "{ a = 1@, }", "{ a = b @= c; }", "{ a = @= b; }", "{ a +@= 1; }", "{ a @=> 1; }", "{ a @: u8 = 1; }", "{ a = @return; }", "{ @= 1; }",
		"{ if a {} @+ 1 }", "{ if a {} @== 1 }", "{ if a {}@.b }", "{ if a {} @= 1; }", "{ if a {} @as u8 }", "{ if a {} @| b }", "{ if a {} @&& b }", "{ if a {};@; }", "{ if a {}@, }", "{ if a {} else {} @/ 2 }", "{ if a {} else {}@.b }", "{ if a {} else {} @else {} }", "{ if a {}@) }", "{ if a {} *@}",
		"{ match a {} @+ 1 }", "{ match a {}@.b }", "{ match a {} @= 1; }", "{ match a {} @as u8 }", "{ match a {};@; }", "{ match a {} @<< 1 }", "{ {} @+ 1 }", "{ {}@.b }", "{ {} @= 1; }", "{ {} @as u8 }", "{ {};@; }", "{ {} @% 1 }", "{ {}@:: }", "{ {} @< a }", "{ { a }@.b; }",
	} {
		bare, at := marked("fn f() " + text)
		wantFault(t, bare, at, api.ErrParse)
	}
}

const program = `// each part of the grammar
struct S { a: u8, b: [Box<Box<S>>; 3], }
enum E { A, B(), C(u8, &mut S), }
const C: i8 = -1i8;
fn f(mut a: u8, b: &S) -> Box<u8> {
	let mut c: bool = a < 1 && !b.a[0] || -1 == *d as i8;
	while c != true { c = false; if c { break; } else if (S { a: 1 }).a { continue; } else { return; } }
	loop { return E::C(1 + 2 * 3 % 4, &mut x); }
	match a { -1 => 1, 2 => { 3 } + 4, true => f(), E::A => (), E::C(x, _,) => [1; 2], _ => [1, 2,], };
	{ g(1,); }
	if a >= b << 2 | c & d ^ e { S { a: 1, b: [], } } else { E::B() }
}
`

func TestParseTellsWhereATextEndsTooSoon(t *testing.T) {
	tokens, _, _ := lex.Lex(program)
	closed := map[int]bool{}
	for i := 1; i < len(tokens); i++ {
		if text := tokens[i].Text; text == "fn" || text == "struct" || text == "enum" || text == "const" {
			closed[i] = true
		}
	}
	for i := 1; i < len(tokens); i++ {
		before := tokens[i-1]
		for _, blanks := range []string{"", " \n", " // x"} {
			text := program[:before.At+len(before.Text)] + blanks
			if closed[i] {
				if _, at, e := Parse(text); at != 0 || e != api.OK {
					t.Errorf("Parse of a program's first %d tokens = %d, %d; want 0, 0", i, at, int(e))
				}
				continue
			}
			wantFault(t, text, len(text), api.ErrParse)
		}
	}
}

func TestParseHandsOnWhatLexRefuses(t *testing.T) {
	long := strings.Repeat("n", api.MaxName+1)
	for _, c := range []struct {
		text string
		e    api.Errno
	}{
		{"@#", api.ErrByte}, {"x @#", api.ErrByte}, {"x x x @\x00", api.ErrByte}, {"fn f() { @\"", api.ErrByte}, {") @\xff", api.ErrByte},
		{"@" + long, api.ErrByte}, {"1 + @" + long + " +", api.ErrByte}, {"@07", api.ErrNumber}, {"1 2 @1u64", api.ErrNumber}, {"[0; @4294967296]", api.ErrNumber},
		{"[0; 70000] @1x", api.ErrNumber}, {strings.Repeat("(", 70) + " @$", api.ErrByte}, {strings.Repeat("(", 70) + " @08", api.ErrNumber},
	} {
		text, at := marked(c.text)
		wantTreeFault(t, text, at, c.e)
		wantFault(t, text, at, c.e)
	}
	wantTreeFault(t, strings.Repeat(" ", api.MaxText)+"1", 0, api.ErrBig)
	wantFault(t, strings.Repeat(" ", api.MaxText+1), 0, api.ErrBig)
	wantItems(t, strings.Repeat(" ", api.MaxText), "")
	wantTree(t, strings.Repeat(" ", api.MaxText-1)+"1", "int#1@65535")
}

func TestCountsOfBrackets(t *testing.T) {
	wantTree(t, "[x; 65535]", "repeat#65535@0(var:x@1)")
	for _, c := range []struct {
		text string
		e    api.Errno
	}{
		{"[x; @65536]", api.ErrNumber}, {"[x; @4294967295]", api.ErrNumber}, {"[x; @65536", api.ErrNumber}, {"[x; @65536 1 2", api.ErrNumber},
		{"[x; @1u8]", api.ErrParse}, {"[x; @0i32]", api.ErrParse}, {"[x; @65535u32]", api.ErrParse}, {"[x; @65536u32]", api.ErrNumber},
		{"[x; 65535 @65536]", api.ErrParse}, {"[[x; @65536]; 65536]", api.ErrNumber}, {"x @x [x; 65536]", api.ErrParse},
		{"x as [u8; @65536]", api.ErrNumber}, {"x as [u8; @2u16]", api.ErrParse}, {"x as [u8; @99999i8]", api.ErrNumber}, {"x as [[u8; @65536]", api.ErrNumber},
	} {
		text, at := marked(c.text)
		wantTreeFault(t, text, at, c.e)
	}
	wantTree(t, "[70000, 1u8]", "array@0(int#70000@1 int:u8#1@8)")
	wantFault(t, "struct S { a: [u8; 65536], b: 1 }", 19, api.ErrNumber)
	wantFault(t, "fn f() { let a: [u8; 1u8] = b; }", 21, api.ErrParse)
}

// P3.1 by rule 4: each list of an answer has memory of its own, its spare room too.

func spoilType(t api.Type) {
	_ = append(t.Elem, api.Type{Kind: -1})
	for _, elem := range t.Elem {
		spoilType(elem)
	}
}

func spoilTree(x api.Expr) {
	_ = append(x.Kids, api.Expr{Kind: -1})
	_ = append(x.Ty, api.Type{Kind: -1})
	for _, t := range x.Ty {
		spoilType(t)
	}
	for _, kid := range x.Kids {
		spoilTree(kid)
	}
}

func TestParseTellsNewMemory(t *testing.T) {
	first, _, _ := Parse(program)
	second, _, _ := Parse(program)
	want := tellItems(first)
	_ = append(first, api.Item{Kind: -1})
	for _, it := range first {
		_ = append(it.Params, api.Param{Mut: true})
		_ = append(it.Variants, api.Variant{At: -1})
		for _, p := range it.Params {
			spoilType(p.Type)
		}
		for _, v := range it.Variants {
			_ = append(v.Types, api.Type{Kind: -1})
		}
		spoilType(it.Type)
		spoilTree(it.Body)
	}
	if got := tellItems(first); got != want {
		t.Errorf("what is written behind one list shows in another:\n%s\n%s", got, want)
	}
	first[0] = api.Item{}
	if got := tellItems(second); got != want || len(first) != 4 {
		t.Errorf("a second call told %s\nnot %s", got, want)
	}
}
