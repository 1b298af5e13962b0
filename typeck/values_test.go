package typeck

import (
	"testing"

	"ferrule/api"
)

// TestNotNegCast: what they refuse, and where.
func TestNotNegCast(t *testing.T) {
	wantWrongMain(t, api.ErrType,
		"@-true;", "@-();", "@-M;", "@-(1u8 + 2);", "let x: u8 = @-{ 1 };", "let x: bool = -{ @1 };", "let x: bool = @-true;", "@-Box::new(1);", "@-[1];", "let x: i8 = -@K;", "let x: u16 = -@K;", "@-E::N;",
		"@!();", "@!Box::new(1);", "@![1];", "let x: bool = !@1;", "let x: u8 = !@true;", "let x: Box<u8> = @!Box::new(1);", "let x: Box<u8> = !@1;", "@!P { a: 1, b: 2 };",
		"() @as u8;", "Box::new(1) @as i32;", "[1] @as u8;", "1 @as bool;", "1 @as ();", "1 @as Nobody;", "1 @as P;", "1 @as &u8;", "1 @as Box<u8>;", "1 @as [u8; 999];", "() @as ();", "E::N @as u8;", "let x: bool = 1 @as u8;", "let x: i8 = 1i8 @as u8;",
	)
	wantMain(t, "300 as u8; -1 as u32; 4000000000u32 as i8 as i32;", "stmt:(){cast<u8>:u8{int#300:i32}} stmt:(){cast<u32>:u32{int#-1:i32}} stmt:(){cast<i32>:i32{cast<i8>:i8{int'u32'#4000000000:u32}}}")
	wantMain(t, "let x: u8 = 7 as u8; !!true;", "let'x'<u8>:(){cast<u8>:u8{int#7:i32}} stmt:(){not:bool{not:bool{bool#1:bool}}}")
	wantWrongMain(t, api.ErrName, "-@nobody;", "!@nobody;", "@nobody as u8;", "@nobody as bool;", "@nobody;", "let x: u8 = @nobody;", "@main;", "@P;", "@print;", "@Box;", "@_;", "@a;")
	wantWrongMain(t, api.ErrRange, "@4294967295 as u8;", "let x: u8 = !@256;", "-{ @2147483648 };")
}

func TestStructs(t *testing.T) {
	wantMain(t, "P { a: 1, b: 2 };", "stmt:(){struct'P':P{init'a':u8{int#1:u8} init'b'#1:i32{int#2:i32}}}")
	wantMain(t, "P { b: 2, a: 1 };", "stmt:(){struct'P':P{init'b'#1:i32{int#2:i32} init'a':u8{int#1:u8}}}")
	wantMain(t, "let u: U = U {};", "let'u'<U>:(){struct'U':U}")
	wantMain(t, "let q = Q { l: [1, 2, 3], p: P { a: 1, b: -2 }, k: Box::new(P { a: 3, b: 4 }) };",
		"let'q':(){struct'Q':Q{init'l'#2:[u16; 3]{array:[u16; 3]{int#1:u16 int#2:u16 int#3:u16}} init'p':P{struct'P':P{init'a':u8{int#1:u8} init'b'#1:i32{int#-2:i32}}}"+
			" init'k'#1:Box<P>{variant'Box::new':Box<P>{struct'P':P{init'a':u8{int#3:u8} init'b'#1:i32{int#4:i32}}}}}}")
	wantWrongMain(t, api.ErrName, "@Nobody { a: 1 };", "@E { a: 1 };", "@main {};", "@K {};", "@Box { a: 1 };", "P { a: 1, @c: 2 };", "P { @c: nobody, a: 1 };", "P { a: @nobody, b: other };", "U { @a: 1 };", "P { a: 1, b: 2, @c: 3 };", "@Nobody { a: nobody };", "@u8 {};")
	wantWrongMain(t, api.ErrTwice, "P { a: 1, @a: 2 };", "P { a: 1, b: 2, @a: 3 };", "P { a: 1, b: 2, @b: 3 };", "P { a: 1, @a: true };", "P { b: 1, @b: nobody };")
	wantWrongMain(t, api.ErrCount, "@P { a: 1 };", "@P { b: 1 };", "@P {};", "let x: u8 = @P { a: 1 };", "@Q { l: [1, 2, 3], k: Box::new(P { a: 3, b: 4 }) };")
	wantWrongMain(t, api.ErrType, "P { a: @true, b: 1 };", "P { a: 1, b: @2u8 };", "let x: u8 = @P { a: 1, b: 2 };", "let x: U = @P { a: 1, b: 2 };", "let x: Box<P> = @P { a: 1, b: 2 };", "P { a: @(), };", "Q { l: @[1, 2] };")
	wantWrongMain(t, api.ErrRange, "P { a: @256, b: 1 };", "P { a: 255, b: @2147483648 };", "P { a: @256, a: 1 };")
}

func TestVariants(t *testing.T) {
	wantMain(t, "E::N; E::A(1); E::B(P { a: 1, b: 2 }, true); One::O(-1);",
		"stmt:(){variant'E::N':E} stmt:(){variant'E::A'#1:E{int#1:u8}} stmt:(){variant'E::B'#2:E{struct'P':P{init'a':u8{int#1:u8} init'b'#1:i32{int#2:i32}} bool#1:bool}} stmt:(){variant'One::O':One{int#-1:i8}}")
	wantMain(t, "let e: E = E::C(Box::new(E::N));", "let'e'<E>:(){variant'E::C'#3:E{variant'Box::new':Box<E>{variant'E::N':E}}}")
	wantMain(t, "Box::new(1); let b: Box<u8> = Box::new(1); Box::new(());", "stmt:(){variant'Box::new':Box<i32>{int#1:i32}} let'b'<Box<u8>>:(){variant'Box::new':Box<u8>{int#1:u8}} stmt:(){variant'Box::new':Box<()>{unit:()}}")
	wantMain(t, "let b: Box<Box<i8>> = Box::new(Box::new(-1));", "let'b'<Box<Box<i8>>>:(){variant'Box::new':Box<Box<i8>>{variant'Box::new':Box<i8>{int#-1:i8}}}")
	wantWrongMain(t, api.ErrName, "@E::Nobody;", "@Nobody::N;", "@P::a;", "@P::N(nobody);", "@E::Nobody(nobody);", "@Box::old(1);", "@Box::N;", "@K::N;", "@E::new(1);", "@Z::N;", "@main::N;", "E::A(@nobody);", "Box::new(@nobody);", "let x: u8 = @E::Nobody;")
	wantWrongMain(t, api.ErrCount, "@E::N(1);", "@E::A;", "@E::A(1, 2);", "@E::B(P { a: 1, b: 2 });", "@E::A();", "@E::N(nobody);", "@E::A(nobody, nobody);", "@Box::new;", "@Box::new();", "@Box::new(1, 2);", "@Box::new(nobody, 2);", "let x: u8 = @Box::new();")
	wantWrongMain(t, api.ErrType, "E::A(@true);", "E::A(@1i8);", "E::B(@1, 2);", "E::B(P { a: 1, b: 2 }, @2);", "let x: u8 = @E::N;", "let x: One = @E::N;", "let x: Box<u8> = Box::new(@true);", "let x: Box<u8> = Box::new(@1i8);", "let x: u8 = @Box::new(1);",
		"let x: Box<Box<u8>> = Box::new(@1u8);", "let x: [u8; 1] = @Box::new(1);", "E::C(@E::N);", "E::C(Box::new(@1));")
	wantWrongMain(t, api.ErrRange, "E::A(@256);", "let x: Box<u8> = Box::new(@256);", "Box::new(@2147483648);")
}

func TestArrays(t *testing.T) {
	wantMain(t, "[1, 2, 3];", "stmt:(){array:[i32; 3]{int#1:i32 int#2:i32 int#3:i32}}")
	wantMain(t, "[1u8, 2]; [true];", "stmt:(){array:[u8; 2]{int'u8'#1:u8 int#2:u8}} stmt:(){array:[bool; 1]{bool#1:bool}}")
	wantMain(t, "let a: [i8; 2] = [1, -2];", "let'a'<[i8; 2]>:(){array:[i8; 2]{int#1:i8 int#-2:i8}}")
	wantMain(t, "let a: [u8; 0] = [];", "let'a'<[u8; 0]>:(){array:[u8; 0]}")
	wantMain(t, "let a: [[u8; 0]; 2] = [[], []];", "let'a'<[[u8; 0]; 2]>:(){array:[[u8; 0]; 2]{array:[u8; 0] array:[u8; 0]}}")
	wantMain(t, "[[1], [2]];", "stmt:(){array:[[i32; 1]; 2]{array:[i32; 1]{int#1:i32} array:[i32; 1]{int#2:i32}}}")
	wantMain(t, "[1; 3]; [Box::new(1)];", "stmt:(){repeat#3:[i32; 3]{int#1:i32}} stmt:(){array:[Box<i32>; 1]{variant'Box::new':Box<i32>{int#1:i32}}}")
	wantMain(t, "let a: [u8; 3] = [1; 3]; [(); 0]; [P { a: 1, b: 2 }; 2];", "let'a'<[u8; 3]>:(){repeat#3:[u8; 3]{int#1:u8}} stmt:(){repeat:[(); 0]{unit:()}} stmt:(){repeat#2:[P; 2]{struct'P':P{init'a':u8{int#1:u8} init'b'#1:i32{int#2:i32}}}}")
	wantMain(t, "[1; 128]; [(); 511]; [[true; 2]; 64];", "stmt:(){repeat#128:[i32; 128]{int#1:i32}} stmt:(){repeat#511:[(); 511]{unit:()}} stmt:(){repeat#64:[[bool; 2]; 64]{repeat#2:[bool; 2]{bool#1:bool}}}")
	wantWrongMain(t, api.ErrType, "@[];", "let x: u8 = @[];", "let x: Box<[u8; 0]> = @[];", "[1, @true];", "[true, @1];", "[1, @2u8];", "[1u8, 2, @3i8];", "let x: [u8; 2] = [@true, false];", "let x: [u8; 2] = [1, @true];", "let x: [u8; 2] = @[1, 2, 3];",
		"let x: [u8; 1] = @[];", "let x: [u8; 0] = @[1];", "let x: u8 = @[1];", "[[1], @[1, 2]];", "let x: [u8; 2] = @[1; 3];", "let x: [u8; 2] = [@true; 2];", "let x: bool = @[true; 2];", "let x: Box<u8> = @[1; 1];", "let x: [u8; 2] = [@1i8; 2];", "[1, @()];", "[@[], [1]];", "let x: [[u8; 0]; 2] = [[], @[1]];")
	wantWrongMain(t, api.ErrMove, "@[Box::new(1); 2];", "@[Box::new(1); 0];", "@[E::N; 2];", "let x: u8 = @[E::N; 2];", "@[[Box::new(1)]; 2];", "@[Box::new(1); 999];", "let b = Box::new(1); @[b; 1];")
	wantWrongMain(t, api.ErrSize, "@[1; 129];", "@[(); 512];", "@[1; 65535];", "@[[1; 64]; 3];", "let x: u8 = @[1; 129];", "@[[1; 100], [2; 100]];", "let a = [1; 128]; @[a, a];", "let a = [0; 65]; @[a; 2];", "@[P { a: 1, b: 2 }; 65];", "let a: [(); 0] = @[(); 512];")
	wantTaken(t, "[P { a: 1, b: 2 }; 64];", "let a = [0; 64]; [a; 2];", "let a = [0; 64]; [a, a];", "let a: [[u8; 0]; 511] = [[]; 511];", "let a = [[0; 64]; 2]; [a; 1];")
	wantWrongMain(t, api.ErrSize, "let a: [u8; 128] = [1; 128]; let b = @[a; 2];", "let a: [(); 511] = [(); 511]; @[a; 1];")
	wantWrongMain(t, api.ErrName, "[@nobody, other];", "[1, @nobody];", "[@nobody; 2];", "[@nobody; 999];")
	wantWrongMain(t, api.ErrRange, "[1u8, @256];", "let x: [u8; 1] = [@256];", "let x: [u8; 9] = [@256; 9];", "[@2147483648];")
}
