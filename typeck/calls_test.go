package typeck

import (
	"strings"
	"testing"

	"ferrule/api"
)

func TestOwnCalls(t *testing.T) {
	wantMain(t, "print(1); print(2u8); print(true); print(K);", "stmt:(){call'print':(){int#1:i32}} stmt:(){call'print':(){int'u8'#2:u8}} stmt:(){call'print':(){bool#1:bool}} stmt:(){call'print':(){int#-7:i16}}")
	wantMain(t, "read(); let x: i32 = read();", "stmt:(){call'read':i32} let'x'<i32>:(){call'read':i32}")
	wantMain(t, "unbox(Box::new(1u8)); let x: i32 = unbox(Box::new(2));", "stmt:(){call'unbox':u8{variant'Box::new':Box<u8>{int'u8'#1:u8}}} let'x'<i32>:(){call'unbox':i32{variant'Box::new':Box<i32>{int#2:i32}}}")
	wantMain(t, "unbox(take(Box::new(1)));", "stmt:(){call'unbox':u8{call'take':Box<u8>{variant'Box::new':Box<u8>{int#1:u8}}}}")
	wantWrongMain(t, api.ErrCount, "@print();", "@print(1, 2);", "@print(nobody, 2);", "@read(1);", "@read(nobody);", "@unbox();", "@unbox(nobody, other);", "@replace();", "@replace(nobody);", "@replace(nobody, other, 1);", "let x: u8 = @print();", "let x: u8 = @read(());")
	wantWrongMain(t, api.ErrType, "print(@());", "print(@[1]);", "print(@Box::new(1));", "print(@P { a: 1, b: 2 });", "print(@E::N);", "print(@print(1));", "unbox(@1);", "unbox(@());", "unbox(@[Box::new(1)]);", "unbox(@E::N);",
		"let x: u8 = @print(1);", "let x: u8 = @read();", "let x: bool = @unbox(Box::new(1));", "let x: u8 = @unbox(Box::new(1));", "let x: Box<u8> = @unbox(Box::new(1u8));")
	wantWrongMain(t, api.ErrName, "print(@nobody);", "unbox(@nobody);", "unbox(*@nobody);", "replace(@nobody, other);", "replace(&mut @nobody, other);")
	wantWrongMain(t, api.ErrRange, "print(@2147483648);", "unbox(Box::new(@256u8));")
	// The language's own names are no variables' and no constants'.
	wantMain(t, "let print = 1; print(print); let read = 2u8; print(read);", "let'print':(){int#1:i32} stmt:(){call'print':(){var'print':i32}} let'read'#2:(){int'u8'#2:u8} stmt:(){call'print':(){var'read'#1:u8}}")
}

func TestCalls(t *testing.T) {
	wantMain(t, "zero(); one(1); two(1, true);", "stmt:(){call'zero':()} stmt:(){call'one':i32{int#1:u8}} stmt:(){call'two':u16{int#1:u8 bool#1:bool}}")
	wantMain(t, "let x: i32 = one(2u8); main()", "let'x'<i32>:(){call'one':i32{int'u8'#2:u8}} call'main':()")
	wantWrongMain(t, api.ErrName, "@nobody();", "@nobody(other);", "@P(1);", "@E();", "@K();", "@Box(1);", "@bool(1);", "let x = 1; @x();", "one(@nobody);", "two(@nobody, other);", "two(1, @nobody);", "let x: u8 = @nobody(1);")
	wantWrongMain(t, api.ErrCount, "@zero(1);", "@one();", "@one(1, 2);", "@one(nobody, other);", "@two(nobody);", "@two(1, true, nobody);", "@look();", "@look(nobody, other);", "let x: u8 = @one();", "@change(nobody);", "@main(1);")
	wantWrongMain(t, api.ErrType, "one(@true);", "one(@1i8);", "two(1, @2);", "two(@true, 1);", "let x: u8 = @one(1);", "let x: bool = @zero();", "one(@());", "take(@1);", "take(Box::new(@1i8));")
	wantWrongMain(t, api.ErrRange, "one(@256);", "two(@256, nobody);", "take(Box::new(@256));")
}

// TestBorrows: arguments for & and &mut.
func TestBorrows(t *testing.T) {
	for _, c := range []struct{ params, body, want string }{
		{"x: P", "look(&x);", "stmt:(){call'look':(){borrow:&P{var'x':P}}}"},
		{"mut x: P", "change(&mut x, 1);", "stmt:(){call'change':bool{borrow#1:&mut P{var'x':P} int#1:u8}}"},
		{"x: &P", "look(x);", "stmt:(){call'look':(){var'x':&P}}"},
		{"y: u8, x: &mut P", "change(x, y);", "stmt:(){call'change':bool{var'x'#1:&mut P var'y':u8}}"},
		{"x: &P", "look(&*x);", "stmt:(){call'look':(){borrow:&P{deref:P{var'x':&P}}}}"},
		{"x: &mut P", "look(&*x); change(&mut *x, 2);", "stmt:(){call'look':(){borrow:&P{deref:P{var'x':&mut P}}}} stmt:(){call'change':bool{borrow#1:&mut P{deref:P{var'x':&mut P}} int#2:u8}}"},
		{"x: Box<P>", "look(&*x); boxed(&x);", "stmt:(){call'look':(){borrow:&P{deref:P{var'x':Box<P>}}}} stmt:(){call'boxed':(){borrow:&Box<P>{var'x':Box<P>}}}"},
		{"x: P", "seen(&x.a);", "stmt:(){call'seen':u8{borrow:&u8{field'a':u8{var'x':P}}}}"},
		{"x: &mut Q", "set(&mut x.k.a); seen(&x.p.a);", "stmt:(){call'set':(){borrow#1:&mut u8{field'a':u8{deref:P{field'k'#1:Box<P>{deref:Q{var'x':&mut Q}}}}}}} stmt:(){call'seen':u8{borrow:&u8{field'a':u8{field'p':P{deref:Q{var'x':&mut Q}}}}}}"},
		{"mut x: [u8; 2]", "set(&mut x[1]);", "stmt:(){call'set':(){borrow#1:&mut u8{index:u8{var'x':[u8; 2] int#1:i32}}}}"},
	} {
		wantBody(t, in(c.params, c.body), "f", c.want)
	}
	wantWrong(t, api.ErrType,
		in("mut x: P", "look(@&mut x);"), in("mut x: P", "change(@&x, nobody);"), in("x: P", "look(@&mut nobody);"), in("x: P", "change(@&nobody, 1);"), in("x: P", "look(@&mut 1);"), // another mut
		in("x: u8", "look(@&x);"), in("mut x: i8", "set(@&mut x);"), in("x: Box<P>", "look(@&x);"), in("x: &P", "look(@&x);"), in("mut x: &mut P", "change(@&mut x, nobody);"), in("x: P", "boxed(@&x);"), in("x: P", "look(@&x.a);"), in("x: Q", "look(@&x);"), in("x: Box<P>", "boxed(@&*x);")) // another type
	wantWrong(t, api.ErrPlace, in("x: P", "look(&@1);"), in("x: P", "look(&@"+makeP+");"), in("x: P", "change(&mut @1, nobody);"), in("x: P", "look(&@K);"), in("x: P", "look(&@zero());"), in("x: P", "look(&*@zero());"), in("x: P", "look(& @&x);"), in("x: P", "look(&@{ x });"))
	wantWrong(t, api.ErrMutable, in("x: P", "change(@&mut x, nobody);"), in("x: &P", "change(@&mut *x, nobody);"), in("x: u8", "change(@&mut x, 1);"), in("x: &mut P", "change(@&mut x, 1);"), in("x: P", "set(@&mut x.b);"))
	wantWrong(t, api.ErrName, in("x: P", "look(@nobody);"), in("x: P", "look(&@nobody);"), in("x: P", "look(&x@.nobody);"), in("x: P", "change(@nobody, other);"), in("x: P", "look(@main);"), in("mut x: P", "change(&mut x, @nobody);"))
	wantWrong(t, api.ErrBorrow,
		in("x: P", "look(@x);"), in("x: &mut P", "look(@x);"), in("x: &P", "change(@x, nobody);"), in("x: &u8", "look(@x);"), in("x: &mut u8", "change(@x, 1);"), in("x: Box<P>", "look(@x);"), in("x: P", "look(@K);"), in("x: P", "change(@K, nobody);"),
		in("x: &P", "look(@*x);"), in("x: &Q", "look(x@.p);"), in("x: [P; 1]", "look(x@[nobody]);"), in("x: P", "look(@1);"), in("x: P", "look(@"+makeP+");"), in("x: P", "look(@zero(nobody));"), in("x: P", "look(@{ nobody });"), in("x: P", "look(@if true { x } else { x });"), in("x: P", "look(@());"), in("x: P", "look(1 @+ nobody);"),
		in("x: P", "change(@match nobody {}, 1);"), in("x: P", "look(@-1);"), in("x: P", "look(@*nobody);"), in("x: P", "look(@[x]);"), in("x: P", "look(1 @as u8);"))
	// A borrow is wanted where one is, and nowhere else.
	wantWrong(t, api.ErrBorrow, in("x: u8", "one(@&x);"), in("x: &u8", "one(@x);"), in("x: &P", "print(@&x);"), in("mut x: P", "change(&mut x, @&x);"), in("mut x: P, n: &u8", "change(&mut x, @n);"))
}

// TestReplace: its first argument is a borrow with mut of anything.
func TestReplace(t *testing.T) {
	for _, c := range []struct{ params, body, want string }{
		{"mut x: u8", "replace(&mut x, 1);", "stmt:(){call'replace':u8{borrow#1:&mut u8{var'x':u8} int#1:u8}}"},
		{"x: &mut u8", "replace(x, 1);", "stmt:(){call'replace':u8{var'x':&mut u8 int#1:u8}}"},
		{"x: &mut P", "let y: u8 = replace(&mut x.a, 1); replace(x, " + makeP + ");", "let'y'#2<u8>:(){call'replace':u8{borrow#1:&mut u8{field'a':u8{deref:P{var'x':&mut P}}} int#1:u8}}" +
			" stmt:(){call'replace':P{var'x':&mut P struct'P':P{init'a':u8{int#1:u8} init'b'#1:i32{int#2:i32}}}}"},
		{"mut x: Box<i8>", "let y = replace(&mut x, Box::new(-1)); replace(&mut *x, 2);", "let'y'#2:(){call'replace':Box<i8>{borrow#1:&mut Box<i8>{var'x':Box<i8>} variant'Box::new':Box<i8>{int#-1:i8}}} stmt:(){call'replace':i8{borrow#1:&mut i8{deref:i8{var'x':Box<i8>}} int#2:i8}}"},
		{"x: &mut Box<u8>", "take(replace(x, Box::new(1)));", "stmt:(){call'take':Box<u8>{call'replace':Box<u8>{var'x':&mut Box<u8> variant'Box::new':Box<u8>{int#1:u8}}}}"},
	} {
		wantBody(t, in(c.params, c.body), "f", c.want)
	}
	// A borrow's own variable is a place of any type, too; but there is no value that could be put into it.
	wantBody(t, in("mut x: &mut u8", "replace(&mut x, { return; });"), "f", "stmt:(){call'replace':&mut u8{borrow#1:&mut &mut u8{var'x':&mut u8} block:!{return:!}}}")
	wantWrong(t, api.ErrBorrow, in("mut x: &mut u8, y: &mut u8", "replace(&mut x, @y);"))
	wantWrong(t, api.ErrType, in("mut x: &mut u8", "replace(&mut x, @1);"))
	wantWrong(t, api.ErrType, in("mut x: u8", "replace(@&x, nobody);"), in("x: u8", "replace(@&nobody, 1);"), in("mut x: u8", "replace(&mut x, @true);"), in("x: &mut u8", "replace(x, @true);"), in("x: &mut P", "replace(x, @1);"), in("mut x: u8", "let y: i8 = @replace(&mut x, 1);"), in("mut x: Box<u8>", "replace(&mut x, @1u8);"), in("mut x: u8", "replace(&mut x, @1i8);"))
	wantWrong(t, api.ErrBorrow, in("x: u8", "replace(@x, nobody);"), in("x: &u8", "replace(@x, 1);"), in("x: Box<u8>", "replace(@x, 1);"), in("x: u8", "replace(@1, nobody);"), in("x: u8", "replace(@K, nobody);"), in("x: &mut u8", "replace(@*x, 1);"), in("x: u8", "replace(@zero(nobody), 1);"), in("x: &mut P", "replace(x@.a, 1);"),
		in("x: &mut u8", "replace(x, @&x);"), in("x: &mut u8, y: &u8", "replace(x, @y);"))
	wantWrong(t, api.ErrPlace, in("x: u8", "replace(&mut @1, nobody);"), in("x: u8", "replace(&mut @K, 1);"), in("x: u8", "replace(&mut @Box::new(x), 1);"))
	wantWrong(t, api.ErrMutable, in("x: u8", "replace(@&mut x, nobody);"), in("x: &u8", "replace(@&mut *x, 1);"), in("x: &mut u8", "replace(@&mut x, 1);"))
	wantWrong(t, api.ErrName, in("x: u8", "replace(@nobody, other);"), in("x: u8", "replace(&mut @nobody, other);"), in("mut x: u8", "replace(&mut x, @nobody);"), in("mut x: P", "replace(&mut x@.c, 1);"))
	wantWrong(t, api.ErrRange, in("mut x: u8", "replace(&mut x, @256);"), in("x: &mut u8", "replace(x, @256);"))
}

// TestFunctions: each one has its own params, slots and answer; the first one that is wrong is told.
func TestFunctions(t *testing.T) {
	text := "fn a(x: u8) -> u8 { let y = x; y } fn main() { let z = 1; } fn b(p: u8, q: bool) -> bool { let x = q; x } struct S { a: u8 } fn c() -> u8 { return 1; }"
	wantBody(t, text, "a", "let'y'#2:(){var'x':u8} var'y'#1:u8")
	wantBody(t, text, "main", "let'z':(){int#1:i32}")
	wantBody(t, text, "b", "let'x'#4:(){var'q'#1:bool} var'x'#2:bool")
	wantBody(t, text, "c", "return:!{int#1:u8}")
	wantWrong(t, api.ErrName, "fn a(x: u8) {} fn main() { @x; }", "fn a() { let x = 1; } fn main() { @x; }", "fn a() { @nobody; } fn main() { let x: u8 = true; }", "fn main() {} fn a() { @nobody; }")
	wantWrong(t, api.ErrType, "fn a() { let x: u8 = @true; } fn main() { nobody; }", "fn main() {} fn a() -> u8 @{}", "fn main() {} fn a() -> u8 { @true }", "fn main() {} fn a() -> u8 @{ 1; }", "fn main() {} fn a() -> u8 @{ let x = 1; }", "fn main() { @1 }", "fn main() {} fn a() -> u8 { @if true { return 1; } }")
	wantWrong(t, api.ErrLoop, "fn a() { loop {} } fn main() { @break; }", "fn main() { @continue; } fn a() { loop {} }")
	wantWrong(t, api.ErrRange, "fn main() {} fn a() -> u8 { @256 }", "fn main() {} fn a() -> Box<u8> { Box::new(@256) }")
}

// TestNamesFirst: what names.Check has against the items comes ahead of all that is wrong with bodies.
func TestNamesFirst(t *testing.T) {
	wantWrong(t, api.ErrTwice, "fn main() { nobody; } fn @main() {}", "fn main() { nobody; } fn @print() {}", "fn a() { nobody; } fn main() {} struct S { a: u8, @a: u8 }")
	wantWrong(t, api.ErrName, "fn main() { let x: u8 = true; } fn a(@x: Nobody) {}", "fn main() { 300u8; } struct S { @a: T }")
	wantWrong(t, api.ErrMain, "fn a() { nobody; }", "", "struct S {}", "fn main(x: u8) { nobody; }", "fn main() -> u8 { nobody }")
	wantWrong(t, api.ErrSize, "fn main() { nobody; } struct S { @a: S }", "fn main() { nobody; } enum E { @A([u8; 129]) }")
	wantWrong(t, api.ErrWords, "fn main() { nobody; } fn @a(x: [u8; 9]) { other; }")
	wantWrong(t, api.ErrRange, "fn main() { nobody; } const @K: u8 = 256;")
	wantWrong(t, api.ErrType, "fn main() { nobody; } const @K: bool = 1;")
	wantWrong(t, api.ErrBorrow, "fn main() { nobody; } fn @a() -> &u8 { nobody }", "fn main() { nobody; } struct S { @a: &u8 }")
	for _, l := range [][]api.Item{nil, {}} {
		wantFault(t, l, "no items", 0, api.ErrMain)
	}
}

// TestGreatPrograms: texts as long as can be, deep in trees of all kinds that may be, come to an answer.
func TestGreatPrograms(t *testing.T) {
	for _, c := range []struct{ ahead, step, behind string }{
		{"let x = 1", "+1", ";"}, {"let x = 1", " as u8", ";"}, {"let mut a = [0; 4]; a[0]=1", "+1", ";"}, {"let x = true", "&&true", ";"}, {"", "let x=1;", ""}, {"", "{}", ""}, {"let x = 1; ", "x;", ""},
		{"let a=1; ", "let a=Box::new(a);", ""}, {"print(1", ");print(1", ");"}, {"if true ", "{} if true", "{}"}, {"match 0 {", "_ => {} } match 0 {", "_ => {} }"}, {"let x = 1 == 2", "; 1 == 2", ";"},
	} {
		frame := len("fn main() {  }") + len(c.ahead) + len(c.behind)
		text := "fn main() { " + c.ahead + strings.Repeat(c.step, (api.MaxText-frame)/len(c.step)) + c.behind + " }"
		l := mustParse(t, text)
		told, at, e := Check(l)
		if e != api.OK || at != 0 || len(told) != 1 {
			t.Errorf("%.60s: %d at %d", text, int(e), at)
		}
	}
	// As many fields and elements of one another as a text has room for: each is one deeper.
	text := "fn main() { let x = 1; x" + strings.Repeat(".a", 30000) + "; }"
	wantFault(t, mustParse(t, text), "x.a.a", 24, api.ErrType)
	text = "fn main() { let x = 1; " + strings.Repeat("*", 58) + "x; }"
	wantFault(t, mustParse(t, text), "***x", 23+57, api.ErrType)
	text = "struct S { s: Box<S>, n: u8 } fn f(x: &S) -> u8 { x" + strings.Repeat(".s", 20000) + ".n } fn main() {}"
	mustCheckOnly(t, text)
}

func mustCheckOnly(t *testing.T, text string) {
	t.Helper()
	if _, at, e := Check(mustParse(t, text)); e != api.OK {
		t.Errorf("%.60s: %d at %d", text, int(e), at)
	}
}
