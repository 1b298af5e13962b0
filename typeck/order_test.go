package typeck

import (
	"testing"

	"ferrule/api"
)

// TestWhichIsFirst: of two things that are wrong the one is told that is checked first.
func TestWhichIsFirst(t *testing.T) {
	for e, bodies := range map[api.Errno][]string{
		// Kids in order, and ahead of the tree's own errors; a type that is wanted is asked for last.
		api.ErrName: {
			"@nobody + other;", "1u8 + @nobody;", "@nobody && 1;", "@nobody << true;", "-@nobody;", "let x: u8 = @nobody == 1;", "let x: u8 = true && @nobody;", "[@nobody, other, 1];", "two(@nobody, 1);", "two(1, @nobody);", "E::B(@nobody, 1);", "P { a: @nobody, a: 1 };", "P { a: 1, @c: true, a: 2 };",
			"if @nobody { 1 }", "if true { @nobody } else { other };", "while @nobody { 1 }", "@nobody; 1", "let x = @nobody; let x: Nobody = 1;", "let mut x = [1]; x[@nobody] = true;", "@nobody[other];", "@nobody.a;", "*@nobody;", "let x: bool = @nobody as u8;", "Box::new(@nobody);",
			"let x: u8 = { @nobody; true };", "match @nobody { 1 => 1, 1 => 1 };", "return @nobody;", "let x: Box<u8> = Box::new(@nobody);", "@nobody as bool;", "[@nobody; 999];", "let x: u8 = @Nobody { a: nobody };", "@Nobody::N(nobody);", "@nobody(other);",
			"let x: u8 = @Nobody::N;", "@let x: Nobody = 300u8;", "@let x: [Nobody; 999] = 1;", "print(@nobody + ());", "let x = 1; x == @nobody;", "{ { @nobody } };", "true && @nobody;",
		},
		// What is asked of the first one comes ahead of the second one's check, where the chapter says so.
		api.ErrType: {
			"let x = 1; x@[nobody];", "true @<< nobody;", "@1 && nobody;", "if @1 { nobody; }", "while @1 { nobody; }", "match @() { 1 => nobody }", "match 1 { @true => nobody }", "two(@(), nobody);", "[1, @true, nobody];", "let x: u8 = @true + nobody;", "E::B(@1, nobody);", "P { a: @true, c: 1 };",
			"let mut x = 1; replace(@&x, nobody);", "let mut x = 1u8; replace(&mut x, @true);", "let x: () = @true; nobody;", "let x: u8 = @1i8; 300u8;", "() @as bool;", "1 @as bool;", "let x: bool = 1 @as bool;", "let p = " + makeP + "; look(@&mut nobody);", "@-1u8;", "let x: i8 = @-300u8;", "let x: u8 = @-300;", "@-256u8;",
			"let p = " + makeP + "; p.a@.c;", "let x = 1; x@.a = nobody;",
		},
		api.ErrRange: {
			"@300u8 + nobody;", "let x: u8 = @300; nobody;", "let x: bool = @300u8;", "let x: i8 = -@300i8;", "let x: u8 = -@300i8;", "[@300u8, true];", "print(@2147483648);", "let a = [1]; a[@2147483648];", "match 1u8 { @256 => nobody }", "two(@256, 1);", "let x: () = @300u8;", "-@129i8 + nobody;",
		},
		// How many there are is asked ahead of what they are.
		api.ErrCount: {
			"@one(nobody, other);", "@print(nobody, other);", "@read(nobody);", "@unbox();", "@replace(nobody);", "@E::A(nobody, other);", "@E::N(nobody);", "@Box::new(nobody, other);", "@look(nobody, other);", "let x: bool = @one();", "match E::N { @E::A(a, a) => nobody }", "@P { a: 1 };", "let x: u8 = @P { a: 1 };",
		},
		api.ErrMutable: {"let x = 1; @x = nobody;", "let x = 1u8; @x = true;", "let x = 1; change(@&mut x, nobody);", "let x = 1; replace(@&mut x, nobody);", "let x = 1; set(@&mut x);"},
		api.ErrPlace:   {"@1 = nobody;", "*@1 = nobody;", "@zero(1) = 2;", "*@one(nobody, 2);", "look(&@one(nobody));", "replace(&mut @1, nobody);", "@[nobody][other];", "@K = nobody;", "look(&@300u8);"},
		api.ErrBorrow:  {"@&nobody;", "let x: u8 = @&300u8;", "@let x: &Nobody = other;", "@let x: Box<&[u8; 999]> = other;", "look(@one(nobody, 1));", "look(@300u8);", "replace(@1, nobody);", "look(@K);", "one(@&mut nobody);"},
		api.ErrTwice:   {"P { a: 1, @a: nobody };", "P { b: 1, @b: true, c: 1 };", "match E::N { E::B(a, @a) => nobody }"},
		api.ErrMatch:   {"match 1 { 1 => {}, @1 => nobody }", "match 1 { _ => {}, @true => nobody }", "match E::N { _ => {}, @E::A(a, a) => {} }", "let x: u8 = @match true { true => 1 };"},
		api.ErrMove:    {"@[Box::new(1); 999];", "let x: u8 = @[Box::new(1); 1];"},
		api.ErrSize:    {"@let x: [u8; 999] = nobody;", "let x: u8 = @[1; 999];", "let x: [u8; 2] = @[1; 999];"},
		api.ErrLoop:    {"@break; nobody;", "{ @continue; } nobody;", "print({ @break; });"},
	} {
		wantWrongMain(t, e, bodies...)
	}
	wantWrong(t, api.ErrBorrow, in("r: &u8", "@r = nobody;"), in("r: &u8", "let x: u8 = @r;"), in("mut r: &mut u8", "@r = nobody;"), in("r: &u8", "look(@r);"), in("r: &u8", "@r == nobody;"))
	wantWrong(t, api.ErrMutable, in("r: &u8", "@*r = nobody;"), in("r: &u8", "change(@&mut *r, nobody);"))
}
