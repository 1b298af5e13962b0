package parse

import (
	"strings"
	"testing"

	"ferrule/api"
)

// nest is a text in which parts stand in one another: open as often as is asked, then the innermost, then closing as often.
type nest struct {
	before, open, inner, closing, after string
	most                                int    // how many opens may be
	ahead                               int    // with more, how many of them stand ahead of what is too deep
	piece                               string // and what of the next one
}

func (n nest) text(times int) string {
	return n.before + strings.Repeat(n.open, times) + n.inner + strings.Repeat(n.closing, times) + n.after
}

// wantMost asks that a nest is taken up to its most, and what is told beyond that.
func wantMost(t *testing.T, n nest, read func(text string) (int, api.Errno)) {
	t.Helper()
	for _, times := range []int{1, n.most - 1, n.most} {
		if at, e := read(n.text(times)); at != 0 || e != api.OK {
			t.Errorf("%q %d times = %d, %d; want 0, 0", n.open, times, at, int(e))
		}
	}
	want := len(n.before) + n.ahead*len(n.open) + len(n.piece)
	for _, times := range []int{n.most + 1, n.most + 2, 3 * n.most} {
		if at, e := read(n.text(times)); at != want || e != api.ErrDeep {
			t.Errorf("%q %d times = %d, %d; want %d, %d", n.open, times, at, int(e), want, int(api.ErrDeep))
		}
	}
}

func readTree(text string) (int, api.Errno) {
	_, at, e := Tree(text)
	return at, e
}

func readProgram(text string) (int, api.Errno) {
	_, at, e := Parse(text)
	return at, e
}

// The innermost x is an operand too, so 59 others may stand around it; where nothing stands in the innermost part, 60 parts may be.
func TestOperandsNest(t *testing.T) {
	for _, n := range []nest{
		{open: "-", inner: "x", most: 59, ahead: 60},
		{open: "!", inner: "x", most: 59, ahead: 60},
		{open: "*", inner: "x", most: 59, ahead: 60},
		{open: "& ", inner: "x", most: 59, ahead: 60},
		{open: "&mut ", inner: "x", most: 59, ahead: 60},
		{open: "(", inner: "x", closing: ")", most: 59, ahead: 60},
		{open: "(", closing: ")", most: 60, ahead: 60},
		{open: "[", closing: "]", most: 60, ahead: 60},
		{open: "[", inner: "x", closing: "; 1]", most: 59, ahead: 60},
		{open: "[x, ", inner: "x", closing: "]", most: 59, ahead: 59, piece: "["},
		{open: "f(", closing: ")", most: 60, ahead: 60},
		{open: "f(x, ", inner: "x", closing: ")", most: 59, ahead: 59, piece: "f("},
		{open: "E::V(", closing: ")", most: 60, ahead: 60},
		{open: "S { a: ", inner: "S {}", closing: "}", most: 59, ahead: 60},
		{open: "x[", inner: "x", closing: "]", most: 59, ahead: 60},
		{open: "1 + (", inner: "x", closing: ")", most: 59, ahead: 60},
		{before: "x as u8 * ", open: "-", inner: "x", most: 59, ahead: 60},
	} {
		wantMost(t, n, readTree)
	}
}

func TestWhatStandsSideBySideDoesNotNest(t *testing.T) {
	sums, fields, casts := "var:x@0", "var:x@0", "var:x@0"
	for i := range 300 {
		sums = "bin:+@" + itoa(2+4*i) + "(" + sums + " var:x@" + itoa(4+4*i) + ")"
		fields = "field:a@" + itoa(1+2*i) + "(" + fields + ")"
		casts = "cast@" + itoa(2+6*i) + "<u8>(" + casts + ")"
	}
	wantTree(t, "x"+strings.Repeat(" + x", 300), sums)
	wantTree(t, "x"+strings.Repeat(".a", 300), fields)
	wantTree(t, "x "+strings.Repeat("as u8 ", 300), casts)
	for _, text := range []string{
		"fn f() {" + strings.Repeat("{} if x {} match x {} x; loop {} ", 300) + "}",
		"fn f() {" + strings.Repeat("let a: u8 = (x); ", 300) + "}",
		strings.Repeat("fn f(a: &u8, b: &u8) {} struct S { a: Box<u8> }", 300),
		"fn f() { f(" + strings.Repeat("-x, ", 300) + "); match x {" + strings.Repeat("_ => {}, ", 300) + "} }",
	} {
		if at, e := readProgram(text); at != 0 || e != api.OK {
			t.Errorf("Parse(%.60q) = %d, %d; want 0, 0", text, at, int(e))
		}
	}
}

// A type behind as, of a param, of a field and of a variant stands in no operand; that of a let stands in the block.
func TestTypesNest(t *testing.T) {
	for _, n := range []nest{
		{before: "x as ", open: "& ", inner: "u8", most: 59, ahead: 60},
		{before: "x as ", open: "&mut ", inner: "u8", most: 59, ahead: 60},
		{before: "x as ", open: "Box<", inner: "u8", closing: ">", most: 59, ahead: 60},
		{before: "x as ", open: "Box < ", inner: "()", closing: " >", most: 59, ahead: 60},
		{before: "x as ", open: "[", inner: "u8", closing: "; 1]", most: 59, ahead: 60},
		{before: "-x as ", open: "& ", inner: "u8", most: 59, ahead: 60},
		{before: "(x as ", open: "& ", inner: "u8", after: ")", most: 58, ahead: 59},
		{before: "f(-x as ", open: "& ", inner: "u8", after: ")", most: 58, ahead: 59},
	} {
		wantMost(t, n, readTree)
	}
	for _, n := range []nest{
		{before: "fn f(a: ", open: "& ", inner: "u8", after: ") {}", most: 59, ahead: 60},
		{before: "fn f() -> ", open: "& ", inner: "u8", after: " {}", most: 59, ahead: 60},
		{before: "struct S { a: ", open: "Box<", inner: "u8", closing: ">", after: "}", most: 59, ahead: 60},
		{before: "enum E { A(u8, ", open: "[", inner: "u8", closing: "; 0]", after: ")}", most: 59, ahead: 60},
		{before: "const C: ", open: "& ", inner: "u8", after: " = 1;", most: 59, ahead: 60},
		{before: "fn f() { let a: ", open: "& ", inner: "u8", after: " = 1; }", most: 58, ahead: 59},
		{before: "fn f() { { let a: ", open: "& ", inner: "u8", after: " = 1; } }", most: 57, ahead: 58},
		{before: "fn f() { x as ", open: "& ", inner: "u8", after: "; }", most: 58, ahead: 59},
	} {
		wantMost(t, n, readProgram)
	}
}

// A block that is a primary stands in its operand; one that is a statement, or is behind if, while, loop or else, does not.
func TestBlocksNest(t *testing.T) {
	for _, n := range []nest{
		{open: "{", closing: "}", most: 59, ahead: 59},
		{open: "{ ", inner: "x", closing: " }", most: 58, ahead: 59},
		{open: "-{", closing: "}", most: 20, ahead: 20},
		{open: "({", closing: "})", most: 20, ahead: 20},
		{before: "{ let a = ", open: "{", closing: "}", after: "; }", most: 57, ahead: 57},
	} {
		wantMost(t, n, readTree)
	}
	for _, n := range []nest{
		{before: "fn f() ", open: "{", closing: "}", most: 60, ahead: 60},
		{before: "fn f() ", open: "{", inner: "x", closing: "}", most: 59, ahead: 60},
		{before: "fn f() ", open: "{ {} ", closing: "}", most: 59, ahead: 59, piece: "{ "},
		{before: "fn f() {", open: "loop {", closing: "}", after: "}", most: 59, ahead: 59, piece: "loop "},
		{before: "fn f() {", open: "while x {", closing: "}", after: "}", most: 59, ahead: 59, piece: "while "},
		{before: "fn f() {", open: "x = {", closing: "};", after: "}", most: 29, ahead: 29, piece: "x = "},
		{before: "fn f() {", open: "return -{", closing: "};", after: "}", most: 19, ahead: 19, piece: "return -"},
	} {
		wantMost(t, n, readProgram)
	}
}

// An if and a match count beside the blocks, operands and arms in them; what is asked stands in them too.
func TestIfsAndMatchesNest(t *testing.T) {
	for _, n := range []nest{
		{open: "if ", inner: "x", closing: " {}", most: 29, ahead: 30},
		{open: "match ", inner: "x", closing: " {}", most: 29, ahead: 30},
		{open: "match x { _ => ", inner: "x", closing: "}", most: 29, ahead: 29, piece: "match "},
		{open: "match () { _ => x, _ => ", inner: "x", closing: "}", most: 29, ahead: 29, piece: "match "},
	} {
		wantMost(t, n, readTree)
	}
	for _, n := range []nest{
		{before: "fn f() {", open: "if x {", closing: "}", after: "}", most: 29, ahead: 29, piece: "if "},
		{before: "fn f() {", open: "if x {} else {", closing: "}", after: "}", most: 29, ahead: 29, piece: "if "},
		{before: "fn f() {", open: "match x { _ => {", closing: "} }", after: "}", most: 19, ahead: 19, piece: "match x { _ => "},
	} {
		wantMost(t, n, readProgram)
	}
}

// A statement that is an if, a match or a block stands in the block itself, and is told too deep where it begins.
func TestClosedStatementsNest(t *testing.T) {
	full := "fn f() " + strings.Repeat("{", 60)
	for _, inner := range []string{"if x {}", "match x {}", "{}", "x", "let a: u8 = x;", "while x {}", "return x;", "x = 1;"} {
		at := len(full) + map[string]int{"let a: u8 = x;": len("let a: "), "while x {}": len("while "), "return x;": len("return ")}[inner]
		wantFault(t, full+inner+strings.Repeat("}", 60), at, api.ErrDeep)
	}
	wantFault(t, strings.TrimSuffix(full, "{")+"if x {}", len(full)+2, api.ErrDeep)
	wantFault(t, strings.TrimSuffix(full, "{")+"match x {}", len(full)+5, api.ErrDeep)
	for _, inner := range []string{"", "break; continue;", "return;"} {
		if at, e := readProgram(full + inner + strings.Repeat("}", 60)); at != 0 || e != api.OK {
			t.Errorf("60 blocks with %q = %d, %d; want 0, 0", inner, at, int(e))
		}
	}
}

func TestIfsBehindElseNest(t *testing.T) {
	for _, n := range []nest{
		{open: "if x {} else ", inner: "{}", most: 58, ahead: 58, piece: "if "},
		{before: "x + ", open: "if x {} else ", inner: "{ }", most: 58, ahead: 58, piece: "if "},
	} {
		wantMost(t, n, readTree)
	}
	for _, n := range []nest{
		{before: "fn f() {", open: "if x {} else ", inner: "{}", after: "}", most: 58, ahead: 58, piece: "if "},
		{before: "fn f() {", open: "if x {} else ", inner: "{} x", after: "}", most: 58, ahead: 58, piece: "if "},
		{before: "fn f() { let a = ", open: "if x {} else ", inner: "{}", after: "; }", most: 57, ahead: 57, piece: "if "},
	} {
		wantMost(t, n, readProgram)
	}
}

// What may not stand there begins nothing, however deep it is; of two faults the one ahead is told.
func TestWhatIsToldFirstOfDepthAndGrammar(t *testing.T) {
	deep, boxes := strings.Repeat("(", 60), "x as "+strings.Repeat("Box<", 60)
	for text, want := range map[string]int{
		deep: 60, deep + " + x": 61, deep + ";": 60, deep + "as": 60, deep + "let": 60, deep + "&&x": 60, deep + "]": 60, "x x " + deep + "x": 2, "(+" + deep + "x": 1,
		boxes: 245, boxes + ">": 245, boxes + "1": 245, boxes + "&&u8": 245, "x as 1 + " + deep + "x": 5,
	} {
		wantTreeFault(t, text, want, api.ErrParse)
	}
	for text, want := range map[string]int{
		deep + "x": 60, deep + "()": 60, deep + "x + + ;": 60, deep + "[x; 65536]": 60, deep + "x" + strings.Repeat(")", 61): 60, deep + "-": 60, deep + "if": 60, deep + "{": 60,
		boxes + "Box": 245, boxes + "(u8": 245, boxes + "[": 245, boxes + "& 1": 245, boxes + "u8 1": 245,
	} {
		wantTreeFault(t, text, want, api.ErrDeep)
	}
	wantTree(t, deep+strings.Repeat(")", 60), "unit@59")
	wantTreeFault(t, "[x; 65536] "+deep+"x", 4, api.ErrNumber)
	wantFault(t, "fn f() "+strings.Repeat("{", 60), 67, api.ErrParse)
	wantFault(t, "fn f() "+strings.Repeat("{", 60)+"+", 67, api.ErrParse)
	wantFault(t, "fn f() "+strings.Repeat("{", 61), 67, api.ErrDeep)
}
