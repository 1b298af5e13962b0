package typeck

import (
	"testing"

	"ferrule/api"
)

const makeP = "P { a: 1, b: 2 }"

// in is a program with a function f of params, whose body is given, beside main and the others.
func in(params, body string) string {
	return "fn f(" + params + ") { " + body + " } fn main() {}" + others
}

func TestPlacesTold(t *testing.T) {
	for _, c := range []struct{ params, body, want string }{
		{"x: u8", "x;", "stmt:(){var'x':u8}"},
		{"x: u8, y: P", "y;", "stmt:(){var'y'#1:P}"},
		{"y: P", "y.a; y.b;", "stmt:(){field'a':u8{var'y':P}} stmt:(){field'b'#1:i32{var'y':P}}"},
		{"a: [u16; 3]", "a[0]; a[2u8];", "stmt:(){index:u16{var'a':[u16; 3] int:i32}} stmt:(){index:u16{var'a':[u16; 3] int'u8'#2:u8}}"},
		{"b: Box<u8>", "*b;", "stmt:(){deref:u8{var'b':Box<u8>}}"},
		{"b: &u8", "*b;", "stmt:(){deref:u8{var'b':&u8}}"},
		{"b: &mut u8", "*b;", "stmt:(){deref:u8{var'b':&mut u8}}"},
		{"b: Box<P>", "b.a; (*b).a;", "stmt:(){field'a':u8{deref:P{var'b':Box<P>}}} stmt:(){field'a':u8{deref:P{var'b':Box<P>}}}"},
		{"b: &P", "b.b;", "stmt:(){field'b'#1:i32{deref:P{var'b':&P}}}"},
		{"b: &mut P", "b.b;", "stmt:(){field'b'#1:i32{deref:P{var'b':&mut P}}}"},
		{"b: &mut Box<P>", "b.a; *b; **b; (*b).a; (**b).a;", "stmt:(){field'a':u8{deref:P{deref:Box<P>{var'b':&mut Box<P>}}}} stmt:(){deref:Box<P>{var'b':&mut Box<P>}} stmt:(){deref:P{deref:Box<P>{var'b':&mut Box<P>}}}" +
			" stmt:(){field'a':u8{deref:P{deref:Box<P>{var'b':&mut Box<P>}}}} stmt:(){field'a':u8{deref:P{deref:Box<P>{var'b':&mut Box<P>}}}}"},
		{"b: &Box<Box<[u8; 2]>>", "b[1]; (*b)[1]; (**b)[1];", "stmt:(){index:u8{deref:[u8; 2]{deref:Box<[u8; 2]>{deref:Box<Box<[u8; 2]>>{var'b':&Box<Box<[u8; 2]>>}}} int#1:i32}}" +
			" stmt:(){index:u8{deref:[u8; 2]{deref:Box<[u8; 2]>{deref:Box<Box<[u8; 2]>>{var'b':&Box<Box<[u8; 2]>>}}} int#1:i32}} stmt:(){index:u8{deref:[u8; 2]{deref:Box<[u8; 2]>{deref:Box<Box<[u8; 2]>>{var'b':&Box<Box<[u8; 2]>>}}} int#1:i32}}"},
		{"q: &Q", "q.p.a; q.k.b; q.l[0];", "stmt:(){field'a':u8{field'p':P{deref:Q{var'q':&Q}}}} stmt:(){field'b'#1:i32{deref:P{field'k'#1:Box<P>{deref:Q{var'q':&Q}}}}}" +
			" stmt:(){index:u16{field'l'#2:[u16; 3]{deref:Q{var'q':&Q}} int:i32}}"},
		{"a: [Box<P>; 2]", "a[0].a; *a[1];", "stmt:(){field'a':u8{deref:P{index:Box<P>{var'a':[Box<P>; 2] int:i32}}}} stmt:(){deref:P{index:Box<P>{var'a':[Box<P>; 2] int#1:i32}}}"},
		{"a: [[u8; 2]; 3], i: u8", "a[i][i + 1];", "stmt:(){index:u8{index:[u8; 2]{var'a':[[u8; 2]; 3] var'i'#1:u8} bin'+':u8{var'i'#1:u8 int#1:u8}}}"},
		{"mut a: [u8; 2]", "a[a[0]] = 1;", "assign:(){index:u8{var'a':[u8; 2] index:u8{var'a':[u8; 2] int:i32}} int#1:u8}"},
	} {
		wantBody(t, in(c.params, c.body), "f", c.want)
	}
	// The place of going through is that of the tree that asks.
	l := mustCheck(t, "fn f(b: &mut Box<P>) { b  .a; } fn main() {}"+others)
	field := l[0].Body.Kids[0].Kids[0]
	outer, inner := field.Kids[0], field.Kids[0].Kids[0]
	if field.At != 26 || outer.At != 26 || inner.At != 26 || inner.Kids[0].At != 23 {
		t.Error(field.At, outer.At, inner.At, inner.Kids[0].At)
	}
}

func TestPlacesWrong(t *testing.T) {
	// No place, and what stands in it is not asked for.
	wantWrongMain(t, api.ErrPlace, "*@1;", "*@();", "*(1 @+ 2);", "*@Box::new(1);", "*@one(1);", "*@one(nobody);", "*@K;", "@K.a;", "@K[0];", "@1.a;", "@one(1).a;", "@[1, 2][0];", "*@{ nobody };", "*@P { a: 1 };",
		"@zero()[nobody];", "*@-1;", "*@!true;", "**@1;", "(*@1).a;", "let x = *@E::N;", "@unbox(Box::new(1)).a;", "*(1 @as u8);", "*@[1; 3];", "*@match nobody {};", "@true.a;", "@().a;", "*@&x;")
	wantWrong(t, api.ErrPlace, in("x: P", "*@&x;"), in("x: P", "@1 = 2;"), in("x: P", "@zero() = 2;"), in("x: P", "x.a @+ 1 = 2;"), in("x: P", "@K = 2;"), in("x: P", "look(&@1);"), in("x: P", "change(&mut @K, nobody);"), in("x: P", "look(&@zero(nobody));"), in("x: P", "@&x = 2;"), in("x: P", "@Box::new(x) = 2;"))
	wantWrong(t, api.ErrType, in("x: u8", "@*x;"), in("x: P", "@*x;"), in("x: [u8; 1]", "@*x;"), in("b: Box<u8>", "@**b;"), in("b: &u8", "@**b;"), in("x: P", "@*x.a;"), in("x: &P", "@*x.a;"), in("x: E", "@*x;"),
		in("x: u8", "x@.a;"), in("x: [P; 1]", "x@.a;"), in("x: E", "x@.a;"), in("x: Box<u8>", "x@.a;"), in("x: &Box<E>", "x@.a;"), in("x: P", "x.a@.a;"), in("x: ()", "x@.a;"), in("x: u8", "x@.nobody;"),
		in("x: u8", "x@[0];"), in("x: P", "x@[0];"), in("x: Box<P>", "x@[nobody];"), in("x: &u8", "x@[0];"), in("x: [u8; 2]", "x[0]@[0];"), in("x: u8", "x@[true];"),
		in("x: [u8; 2]", "x[@true];"), in("x: [u8; 2]", "x[@()];"), in("x: [u8; 2], p: P", "x[@p];"), in("x: [u8; 2]", "x[@x];"), in("x: &[u8; 2]", "x[@Box::new(1)];"),
		in("x: u8", "let y: i8 = @x;"), in("x: P", "let y: i8 = x@.a;"), in("x: [u8; 2]", "let y: i8 = x@[0];"), in("x: &u8", "let y: i8 = @*x;"), in("x: Box<u8>", "let y: u8 = @x;"))
	wantWrong(t, api.ErrName, in("x: P", "x@.c;"), in("x: &mut Box<P>", "x@.c;"), in("x: U", "x@.a;"), in("x: P", "x@._;"), in("x: P", "@y.a;"), in("x: P", "@y.c;"), in("x: P", "@y[x];"), in("x: P", "*@y;"), in("x: [u8; 2]", "x[@y];"), in("x: Q", "x.p@.c;"), in("x: P", "x@.P;"), in("x: P", "@main.a;"), in("x: P", "@y = 1;"), in("x: P", "look(&@y);"))
	wantWrong(t, api.ErrRange, in("x: [u8; 2]", "x[@2147483648];"), in("x: [u8; 2]", "x[@256u8];"))
	// A place of a borrow's type is no value, wherever it stands.
	for _, borrow := range []string{"&", "&mut "} {
		for _, body := range []string{"@r;", "let x = @r;", "let x: u8 = @r;", "let x: P = @r;", "print(@r);", "one(@r);", "@r + 1;", "1 == @r;", "[@r];", "[@r; 2];", "Box::new(@r);", "E::A(@r);", "P { a: @r, b: 1 };", "if @r {}", "match @r {}", "{ @r };", "@r as u8;", "-@r;", "!@r;", "return @r;", "while @r {}",
			"let mut x = 1; x = @r;", "unbox(@r);", "let a = [1]; a[@r];", "@r << 1;", "1 << @r;", "@r && true;", "true || @r;", "@r", "take(@r);"} {
			wantWrong(t, api.ErrBorrow, in("r: "+borrow+"u8", body), in("r: "+borrow+"P", body), in("mut r: "+borrow+"[bool; 2]", body))
		}
		wantWrong(t, api.ErrBorrow, in("mut r: "+borrow+"u8", "@r = 1;"), in("r: "+borrow+"P", "@r = nobody;"))
	}
	wantWrongMain(t, api.ErrBorrow, "@&1;", "let x = @&1;", "@&mut 1;", "let x: u8 = @&nobody;", "print(@&1);", "one(@&mut 1);", "@&1 + 1;", "let y = 1; let x = @&y;", "let y = 1; [@&y];", "1 == @&1;", "return @&1;", "@&nobody", "if @&true {}", "match @&1 {}", "Box::new(@&1);", "unbox(@&1);", "let mut x = 1; x = @&x;", "@&mut &1;", "-@&1;", "@&1 as u8;")
}

// TestMayBeChanged: which places may be assigned to, and borrowed with mut.
func TestMayBeChanged(t *testing.T) {
	for _, c := range []struct{ params, place, value string }{
		{"mut x: u8", "x", "1"}, {"mut x: P", "x.a", "1"}, {"mut x: P", "x", makeP}, {"mut x: [u8; 2]", "x[0]", "1"}, {"mut x: Q", "x.p.a", "1"}, {"mut x: Q", "x.l[1]", "1"}, {"mut x: [[P; 1]; 1]", "x[0][0].b", "1"},
		{"mut x: Box<u8>", "*x", "1"}, {"mut x: Box<P>", "x.a", "1"}, {"mut x: Box<Box<u8>>", "**x", "1"}, {"mut x: Box<Box<u8>>", "*x", "Box::new(1)"}, {"mut x: Box<u8>", "x", "Box::new(1)"}, {"mut x: Q", "x.k.a", "1"}, {"mut x: [Box<u8>; 2]", "*x[0]", "1"},
		{"x: &mut u8", "*x", "1"}, {"x: &mut P", "x.a", "1"}, {"x: &mut P", "*x", makeP}, {"x: &mut Box<P>", "x.a", "1"}, {"x: &mut Box<u8>", "**x", "1"}, {"x: &mut Q", "x.k.a", "1"}, {"x: &mut [[u8; 2]; 2]", "x[0][1]", "1"}, {"mut x: &mut u8", "*x", "1"},
	} {
		for _, body := range []string{c.place + " = " + c.value + ";", "replace(&mut " + c.place + ", " + c.value + ");"} {
			mustCheck(t, in(c.params, body))
		}
	}
	for _, c := range []struct{ params, place string }{
		{"x: u8", "@x"}, {"x: P", "x@.a"}, {"x: P", "@x"}, {"x: [u8; 2]", "x@[0]"}, {"x: Q", "x.p@.a"}, {"x: Q", "x.l@[1]"}, {"x: [[P; 1]; 1]", "x[0][0]@.b"},
		{"x: Box<u8>", "@*x"}, {"x: Box<P>", "x@.a"}, {"x: Box<Box<u8>>", "@**x"}, {"x: Box<Box<u8>>", "@*x"}, {"x: Box<u8>", "@x"}, {"x: Q", "x.k@.a"}, {"x: [Box<u8>; 2]", "@*x[0]"},
		{"x: &u8", "@*x"}, {"x: &P", "x@.a"}, {"x: &P", "@*x"}, {"x: &Box<P>", "x@.a"}, {"x: &Box<u8>", "@**x"}, {"x: &Q", "x.k@.a"}, {"x: &[[u8; 2]; 2]", "x[0]@[1]"}, {"mut x: &u8", "@*x"}, {"mut x: &P", "x@.a"}, {"mut x: &Box<P>", "x@.a"},
	} {
		plain := ""
		for _, r := range c.place {
			if r != '@' {
				plain += string(r)
			}
		}
		wantWrong(t, api.ErrMutable, in(c.params, c.place+" = nobody;"), in(c.params, "replace(@&mut "+plain+", nobody);"))
	}
	wantTaken(t, "let mut x = 1; x = 2;", "let mut x = 1; { x = 2; }", "let mut x = 1; let y = 2; x = y;", "let x = 1; let mut x = 2; x = 3;", "let mut p = "+makeP+"; p.a = 2; set(&mut p.a); change(&mut p, 1);", "let mut _ = 1; _ = 2;")
	wantWrongMain(t, api.ErrMutable, "let x = 1; @x = 2;", "let mut x = 1; let x = 2; @x = 3;", "let x = 1; { let mut x = 2; x = 3; } @x = 4;", "match E::A(1) { E::A(n) => { @n = 2; }, _ => {} }", "let p = "+makeP+"; set(@&mut p.a);", "let mut n = 1; match E::A(1) { E::A(n) => { @n = 2; }, _ => {} }",
		"let p = "+makeP+"; change(@&mut p, nobody);", "let b = Box::new(1u8); set(@&mut *b);")
}

// TestAssign: the value has the place's type.
func TestAssign(t *testing.T) {
	wantMain(t, "let mut x = 1u8; x = 2;", "let'x'#1:(){int'u8'#1:u8} assign:(){var'x':u8 int#2:u8}")
	wantMain(t, "let mut b = Box::new(1i8); b = Box::new(2); *b = -3;", "let'b'#1:(){variant'Box::new':Box<i8>{int'i8'#1:i8}} assign:(){var'b':Box<i8> variant'Box::new':Box<i8>{int#2:i8}} assign:(){deref:i8{var'b':Box<i8>} int#-3:i8}")
	wantWrongMain(t, api.ErrType, "let mut x = 1u8; x = @true;", "let mut x = 1u8; x = @2i8;", "let mut x = 1; x = @2u8;", "let mut p = "+makeP+"; p.a = @p;", "let mut x = (); x = @1;", "let mut b = Box::new(1u8); b = @1u8;", "let mut b = Box::new(1u8); *b = @Box::new(1u8);")
	wantWrongMain(t, api.ErrRange, "let mut x = 1u8; x = @256;", "let mut p = "+makeP+"; p.a = @256;")
	wantWrongMain(t, api.ErrName, "let mut x = 1; x = @nobody;", "@nobody = other;", "let mut x = [1]; x[@nobody] = other;")
}
