package typeck

import (
	"strings"
	"testing"

	"ferrule/api"
)

func TestLets(t *testing.T) {
	wantMain(t, "let x = 1; let mut y = true; let z: u8 = 2; let mut w: i8 = 3;", "let'x':(){int#1:i32} let'y'#3:(){bool#1:bool} let'z'#4<u8>:(){int#2:u8} let'w'#7<i8>:(){int#3:i8}")
	wantMain(t, "let _ = 1; let x = _; let _: () = ();", "let'_':(){int#1:i32} let'x'#2:(){var'_':i32} let'_'#4<()>:(){unit:()}")
	wantMain(t, "let x = 1u8; let x = x == 2; x;", "let'x':(){int'u8'#1:u8} let'x'#2:(){bin'==':bool{var'x':u8 int#2:u8}} stmt:(){var'x'#1:bool}")
	wantWrongMain(t, api.ErrBorrow, "@let x: &u8 = nobody;", "@let x: &mut Nobody = 1;", "@let x: Box<&u8> = 1;", "@let mut x: [&u8; 999] = 1;", "@let x: & &u8 = 1;")
	wantWrongMain(t, api.ErrName, "@let x: Nobody = other;", "@let x: Box<Nobody> = 1;", "@let x: [Nobody; 999] = 1;", "@let x: main = 1;", "@let x: K = 1;", "let x = @x;", "let x: u8 = @x;", "let x = 1; let y = @z;", "@let x: [[Nobody; 2]; 2] = &1;")
	wantWrongMain(t, api.ErrSize, "@let x: [u8; 129] = nobody;", "@let x: Box<[u8; 129]> = 1;", "@let x: [(); 512] = [(); 512];", "@let x: [P; 65] = 1;")
	wantWrongMain(t, api.ErrType, "let x: u8 = @true;", "let x: () = @1;", "let x: Z = @E::N;", "let x: [u8; 2] = @1;", "let x: u8 = @1u16;")
	wantTaken(t, "let x: [u8; 128] = [0; 128];", "let x: Box<[P; 64]> = Box::new(["+makeP+"; 64]);", "let x: [(); 511] = [(); 511];", "let x: Box<Box<E>> = Box::new(Box::new(E::N));", "let P = 1; P;", "let main = 1; main; main();")
}

// TestScopes: a name in an inner block, in an arm, and behind them; a param's of the same name; a constant's.
func TestScopes(t *testing.T) {
	for _, c := range []struct{ params, body, want string }{
		{"x: u8", "x; { x; let x = true; x; } x;", "stmt:(){var'x':u8} stmt:(){block:(){stmt:(){var'x':u8} let'x'#2:(){bool#1:bool} stmt:(){var'x'#1:bool}}} stmt:(){var'x':u8}"},
		{"x: u8", "let x = x as i8; x;", "let'x'#2:(){cast<i8>:i8{var'x':u8}} stmt:(){var'x'#1:i8}"},
		{"x: u8, e: E", "match e { E::A(x) => { x; }, E::B(y, x) => { y; x; }, _ => { x; } } x;", "stmt:(){match:(){var'e'#1:E arm:(){pavariant'E::A'#1:E{pabind'x'#2:u8} block:(){stmt:(){var'x'#2:u8}}} arm:(){pavariant'E::B'#2:E{pabind'y'#3:P pabind'x'#4:bool}" +
			" block:(){stmt:(){var'y'#3:P} stmt:(){var'x'#4:bool}}} arm:(){paany:E block:(){stmt:(){var'x':u8}}}}} stmt:(){var'x':u8}"},
		{"e: E", "match e { E::B(_, _) => 1, E::A(_) => 2, _ => 3 }; let x = 1;", "stmt:(){match:i32{var'e':E arm:i32{pavariant'E::B'#2:E{pabind'_'#-1:P pabind'_'#-1:bool} int#1:i32} arm:i32{pavariant'E::A'#1:E{pabind'_'#-1:u8} int#2:i32} arm:i32{paany:E int#3:i32}}} let'x'#2:(){int#1:i32}"},
		{"K: u8", "K; { let K = true; K; } K;", "stmt:(){var'K':u8} stmt:(){block:(){let'K'#2:(){bool#1:bool} stmt:(){var'K'#1:bool}}} stmt:(){var'K':u8}"},
		{"", "K; let K = K == 1; K;", "stmt:(){int#-7:i16} let'K':(){bin'==':bool{int#-7:i16 int#1:i16}} stmt:(){var'K':bool}"},
		{"", "{ let K = 1; K; } K;", "stmt:(){block:(){let'K':(){int#1:i32} stmt:(){var'K':i32}}} stmt:(){int#-7:i16}"},
		// A let's own name and slot come behind what its value has.
		{"", "let x = { let y = 1; y }; x;", "let'x'#2:(){block#1:i32{let'y':(){int#1:i32} var'y':i32}} stmt:(){var'x'#1:i32}"},
		{"", "let x = { let x = 1u8; { let x = x == 1; x } }; x;", "let'x'#4:(){block#1:bool{let'x':(){int'u8'#1:u8} block#1:bool{let'x'#2:(){bin'==':bool{var'x':u8 int#1:u8}} var'x'#1:bool}}} stmt:(){var'x'#2:bool}"},
		// Slots are not given twice, be it in blocks side by side.
		{"a: u8", "{ let x = 1; } { let x = 2; } let x = 3;", "stmt:(){block:(){let'x'#2:(){int#1:i32}}} stmt:(){block:(){let'x'#4:(){int#2:i32}}} let'x'#6:(){int#3:i32}"},
		{"", "if { let a = true; a } { let b = 1; } else { let c = 2; } let d = 3;", "stmt:(){if:(){block#1:bool{let'a':(){bool#1:bool} var'a':bool} block:(){let'b'#2:(){int#1:i32}} block:(){let'c'#4:(){int#2:i32}}}} let'd'#6:(){int#3:i32}"},
		{"", "while { let a = true; a } { let b = 1; } loop { let c = 2; break; } let d = 3;", "while:(){block#1:bool{let'a':(){bool#1:bool} var'a':bool} block:(){let'b'#2:(){int#1:i32}}} loop:(){block:!{let'c'#4:(){int#2:i32} break:!}} let'd'#6:(){int#3:i32}"},
		// In a pair the second one is checked first, if the first one is a bare number, which has no variables.
		{"", "1 == { let a = 2u8; a }; let b = 1;", "stmt:(){bin'==':bool{int#1:u8 block#1:u8{let'a':(){int'u8'#2:u8} var'a':u8}}} let'b'#2:(){int#1:i32}"},
		{"", "({ let a = 1; a }) + { let b = 2; b };", "stmt:(){bin'+':i32{block#1:i32{let'a':(){int#1:i32} var'a':i32} block#1:i32{let'b'#2:(){int#2:i32} var'b'#1:i32}}}"},
	} {
		wantBody(t, in(c.params, c.body), "f", c.want)
	}
	wantWrongMain(t, api.ErrName, "{ let x = 1; } @x;", "match E::A(1) { E::A(x) => {}, _ => { @x; } }", "match E::A(1) { E::A(x) => {}, _ => {} } @x;", "if true { let x = 1; } else { @x; }", "if true { let x = 1; } @x;", "while { let x = true; x } { @x; }", "loop { let x = 1; break; } @x;",
		"let y = { let x = 1; x }; @x;", "match { let x = 1; x } { _ => @x };", "let x = @x + 1;", "match E::A(1) { E::A(_) => { @_; }, _ => {} }", "@x; let x = 1;", "match E::A(1) { E::A(x) => { let y = x; }, _ => { @y; } }")
}

func TestBlocks(t *testing.T) {
	wantMain(t, "{}", "block:()")
	wantMain(t, "{};", "stmt:(){block:()}")
	wantMain(t, "{ 1; }", "block:(){stmt:(){int#1:i32}}")
	wantMain(t, "let x = { 1 }; let y: u8 = { 2 };", "let'x':(){block#1:i32{int#1:i32}} let'y'#2<u8>:(){block#1:u8{int#2:u8}}")
	wantMain(t, "let x: u8 = { print(1); { 2 } };", "let'x'<u8>:(){block#1:u8{stmt:(){call'print':(){int#1:i32}} block#1:u8{int#2:u8}}}")
	wantWrongMain(t, api.ErrType, "let x: u8 = @{};", "let x: u8 = @{ 1; };", "let x: u8 = { @true };", "let x: u8 = { { @true } };", "let x: () = { @1 };", "@1", "{ @1 }", "let x = 1; @x", "@read()", "let x: u8 = @{ let y = 1; };", "let x: u8 = { 1; @() };")
	wantWrongMain(t, api.ErrRange, "let x: u8 = { @256 };", "let x: u8 = { 1; { @256 } };")
	wantWrongMain(t, api.ErrName, "{ @nobody; 1 };", "{ @nobody };", "let x: u8 = { @nobody; true };")
}

func TestIfs(t *testing.T) {
	wantMain(t, "if true {}", "if:(){bool#1:bool block:()}")
	wantMain(t, "if true { print(1); }; if false { print(1) }", "stmt:(){if:(){bool#1:bool block:(){stmt:(){call'print':(){int#1:i32}}}}} if:(){bool:bool block#1:(){call'print':(){int#1:i32}}}")
	wantMain(t, "if true { 1 } else { 2 };", "stmt:(){if:i32{bool#1:bool block#1:i32{int#1:i32} block#1:i32{int#2:i32}}}")
	wantMain(t, "if true { 1u8 } else { 2 };", "stmt:(){if:u8{bool#1:bool block#1:u8{int'u8'#1:u8} block#1:u8{int#2:u8}}}")
	wantMain(t, "let x: i8 = if true { 1 } else { -2 };", "let'x'<i8>:(){if:i8{bool#1:bool block#1:i8{int#1:i8} block#1:i8{int#-2:i8}}}")
	wantMain(t, "if 1 < 2 { true } else if 2 < 1 { false } else { true };", "stmt:(){if:bool{bin'<':bool{int#1:i32 int#2:i32} block#1:bool{bool#1:bool} if:bool{bin'<':bool{int#2:i32 int#1:i32} block#1:bool{bool:bool} block#1:bool{bool#1:bool}}}}")
	wantMain(t, "if true {} else if false {}", "if:(){bool#1:bool block:() if:(){bool:bool block:()}}")
	wantMain(t, "let x: u8 = if true { 1 } else if true { 2 } else { 3 };", "let'x'<u8>:(){if:u8{bool#1:bool block#1:u8{int#1:u8} if:u8{bool#1:bool block#1:u8{int#2:u8} block#1:u8{int#3:u8}}}}")
	wantWrongMain(t, api.ErrType, "if @1 {}", "if @() { nobody; }", "if true { @1 }", "if true { @1 };", "let x: u8 = @if true {};", "let x: u8 = if true { @() } else { 1 };", "let x: u8 = if true { 1 } else @{};", "let x: u8 = if true { 1 } else @if true {};", "let x: u8 = if true { 1 } else { @true };",
		"if true { 1 } else { @true };", "if true { 1 } else { @2u8 };", "if true {} else { @1 };", "if true { 1 } else @{};", "if true { 1 } else @if true {};", "if true { @1 } else { 2 }", "let x: () = if true { @1 } else {};", "if true { true } else if true { true } else { @1 };", "let x: u8 = if true { @1i8 } else { 2 };", "let x: u8 = if true { 1 } else { @2i8 };",
		"let x: u8 = if true { 1 } else if @1 { 2 } else { 3 };", "let x: u8 = if true @{ 1; } else { 2 };")
	wantWrongMain(t, api.ErrName, "if @nobody { other; }", "if true { @nobody; } else { other; }", "if true {} else { @nobody; }", "if true {} else if @nobody {}", "if true { 1 } else { @nobody };")
	wantWrongMain(t, api.ErrRange, "let x: u8 = if true { @256 } else { 1 };", "if true { 1u8 } else { @256 };")
}

// TestLoops: which loops are left, and where break and continue may stand.
func TestLoops(t *testing.T) {
	wantMain(t, "while true {}", "while:(){bool#1:bool block:()}")
	wantMain(t, "while 1 < 2 { print(1) }", "while:(){bin'<':bool{int#1:i32 int#2:i32} block#1:(){call'print':(){int#1:i32}}}")
	wantMain(t, "loop {}", "loop:!{block:()}")
	wantMain(t, "loop { break; }", "loop:(){block:!{break:!}}")
	wantMain(t, "loop { continue; }", "loop:!{block:!{next:!}}")
	wantMain(t, "while true { break; continue; }", "while:(){bool#1:bool block:!{break:! next:!}}")
	wantMain(t, "loop { if true { break; } }", "loop:(){block#1:(){if:(){bool#1:bool block:!{break:!}}}}")
	wantMain(t, "loop { { break; } }", "loop:(){block#1:!{block:!{break:!}}}")
	wantMain(t, "loop { match 1 { 1 => { break; }, _ => {} } }", "loop:(){block#1:(){match:(){int#1:i32 arm:!{paint#1:i32 block:!{break:!}} arm:(){paany:i32 block:()}}}}")
	wantMain(t, "loop { loop { break; } }", "loop:!{block:(){loop:(){block:!{break:!}}}}")
	wantMain(t, "loop { while true { break; } }", "loop:!{block:(){while:(){bool#1:bool block:!{break:!}}}}")
	wantMain(t, "loop { loop {} break; }", "loop:(){block:!{loop:!{block:()} break:!}}")
	wantMain(t, "loop { loop { break; } break; }", "loop:(){block:!{loop:(){block:!{break:!}} break:!}}")
	wantMain(t, "loop { break; loop {} }", "loop:(){block:!{break:! loop:!{block:()}}}")
	wantMain(t, "loop { return; break; }", "loop:(){block:!{return:! break:!}}")
	wantMain(t, "while true { loop {} }", "while:(){bool#1:bool block:!{loop:!{block:()}}}")
	wantMain(t, "loop { let x = { break; 1 }; }", "loop:(){block:(){let'x':(){block#1:i32{break:! int#1:i32}}}}")
	// What stands in a while's condition stands within it.
	wantMain(t, "while { break; } {}", "while:(){block:!{break:!} block:()}")
	wantMain(t, "loop { while { break; true } {} }", "loop:!{block:(){while:(){block#1:bool{break:! bool#1:bool} block:()}}}")
	wantMain(t, "while { continue; } {}", "while:(){block:!{next:!} block:()}")
	for _, body := range []string{"@break;", "@continue;", "loop { break; } @break;", "while true {} @continue;", "if true { @break; }", "{ @continue; }", "match 1 { _ => { @break; } }", "let x = { @break; 1 };", "loop {} @break;"} {
		wantWrongMain(t, api.ErrLoop, body)
	}
	wantWrongMain(t, api.ErrType, "while @1 {}", "while @() { nobody; }", "while true { @1 }", "loop { @1 }", "loop { break; @1 }", "loop { if true { @1 } }", "while true { { @true } }")
	wantWrongMain(t, api.ErrName, "while @nobody { other; }", "while true { @nobody; }", "loop { @nobody; }", "loop { @nobody }")
}

func TestReturns(t *testing.T) {
	wantMain(t, "return;", "return:!")
	wantMain(t, "return ();", "return:!{unit:()}")
	wantMain(t, "return print(1);", "return:!{call'print':(){int#1:i32}}")
	wantMain(t, "return { return; };", "return:!{block:!{return:!}}")
	wantBody(t, "fn main() {} fn f() -> u8 { return 1; }", "f", "return:!{int#1:u8}")
	wantBody(t, "fn main() {} fn f() -> Box<i8> { return Box::new(-1); }", "f", "return:!{variant'Box::new':Box<i8>{int#-1:i8}}")
	wantBody(t, "fn main() {} fn f() -> u8 { if true { return 1; } 2 }", "f", "stmt:(){if:(){bool#1:bool block:!{return:!{int#1:u8}}}} int#2:u8")
	wantBody(t, "fn main() {} fn f() -> u8 { if true { return 1; } else { return 2; } }", "f", "if:!{bool#1:bool block:!{return:!{int#1:u8}} block:!{return:!{int#2:u8}}}")
	wantBody(t, "fn main() {} fn f() -> u8 { return 1; print(2); }", "f", "return:!{int#1:u8} stmt:(){call'print':(){int#2:i32}}")
	wantWrongMain(t, api.ErrType, "return @1;", "return @true;", "{ return @1; }", "loop { return @1; }")
	wantWrong(t, api.ErrType, "fn main() {} fn f() -> u8 { @return; }", "fn main() {} fn f() -> u8 { return @true; }", "fn main() {} fn f() -> u8 { return @(); }", "fn main() {} fn f() -> u8 { return 1; @() }", "fn main() {} fn f() -> u8 { @return; nobody; }", "fn main() {} fn f() -> u8 { if true { @return; } 1 }", "fn main() {} fn f() -> Box<u8> { return @1; }", "fn main() {} fn f() -> [u8; 0] { @return; }")
	wantWrong(t, api.ErrRange, "fn main() {} fn f() -> u8 { return @256; }")
	wantWrong(t, api.ErrName, "fn main() { return @nobody; }", "fn main() {} fn f() -> u8 { return @nobody; }")
}

// TestNever: what does not go on, as the first, the second and the only one of what has kids.
func TestNever(t *testing.T) {
	for body, want := range map[string]string{
		// Of a pair.
		"({ return; }) + 1;":                  "stmt:(){bin'+':i32{NEVER int#1:i32}}",
		"({ return; }) + 1u8;":                "stmt:(){bin'+':u8{NEVER int'u8'#1:u8}}",
		"1 + { return; };":                    "stmt:(){bin'+':i32{int#1:i32 NEVER}}",
		"1u8 + { return; };":                  "stmt:(){bin'+':u8{int'u8'#1:u8 NEVER}}",
		"K < { return; };":                    "stmt:(){bin'<':bool{int#-7:i16 NEVER}}",
		"-1 < { return; };":                   "stmt:(){bin'<':bool{int#-1:i32 NEVER}}",
		"({ return; }) == true;":              "stmt:(){bin'==':bool{NEVER bool#1:bool}}",
		"let x: u8 = ({ return; }) * 1;":      "let'x'<u8>:(){bin'*':u8{NEVER int#1:u8}}",
		"let x: u8 = 1 * { return; };":        "let'x'<u8>:(){bin'*':u8{int#1:u8 NEVER}}",
		"let x: bool = ({ return; }) & true;": "let'x'<bool>:(){bin'&':bool{NEVER bool#1:bool}}",
		"({ return; }) && true;":              "stmt:(){bin'&&':bool{NEVER bool#1:bool}}",
		"true || { return; };":                "stmt:(){bin'||':bool{bool#1:bool NEVER}}",
		"({ return; }) && { return; };":       "stmt:(){bin'&&':bool{NEVER NEVER}}",
		// Of an if and a match.
		"if { return; } {}":                                 "if:(){NEVER block:()}",
		"if true { return; }":                               "if:(){bool#1:bool NEVER}",
		"if true { return; } else { 1 };":                   "stmt:(){if:i32{bool#1:bool NEVER block#1:i32{int#1:i32}}}",
		"if true { return; } else { 1u8 };":                 "stmt:(){if:u8{bool#1:bool NEVER block#1:u8{int'u8'#1:u8}}}",
		"if true { 1u8 } else { return; };":                 "stmt:(){if:u8{bool#1:bool block#1:u8{int'u8'#1:u8} NEVER}}",
		"if true { return; } else { return; };":             "stmt:!{if:!{bool#1:bool NEVER NEVER}}",
		"if true { return; } else if true {};":              "stmt:(){if:(){bool#1:bool NEVER if:(){bool#1:bool block:()}}}",
		"let x: u8 = if true { return; } else { return; };": "let'x'<u8>:!{if:!{bool#1:bool NEVER NEVER}}",
		"match 1 { 1 => { return; }, _ => 2u8 };":           "stmt:(){match:u8{int#1:i32 arm:!{paint#1:i32 NEVER} arm:u8{paany:i32 int'u8'#2:u8}}}",
		"match 1 { 1 => 2u8, _ => { return; } };":           "stmt:(){match:u8{int#1:i32 arm:u8{paint#1:i32 int'u8'#2:u8} arm:!{paany:i32 NEVER}}}",
		"match 1 { 1 => { return; }, 2 => 3u8, _ => 4 };":   "stmt:(){match:u8{int#1:i32 arm:!{paint#1:i32 NEVER} arm:u8{paint#2:i32 int'u8'#3:u8} arm:u8{paany:i32 int#4:u8}}}",
		"match 1 { 1 => 2u8, 2 => { return; }, _ => 4 };":   "stmt:(){match:u8{int#1:i32 arm:u8{paint#1:i32 int'u8'#2:u8} arm:!{paint#2:i32 NEVER} arm:u8{paany:i32 int#4:u8}}}",
		"match 1 { _ => { return; } };":                     "stmt:!{match:!{int#1:i32 arm:!{paany:i32 NEVER}}}",
		"match give() {};":                                  "stmt:!{match:!{call'give':Z}}",
		"let x: u8 = match give() {};":                      "let'x'<u8>:!{match:!{call'give':Z}}",
		// Of an array, a Box, a struct and a variant.
		"[{ return; }];":                          "stmt:(){array:[(); 1]{NEVER}}",
		"[{ return; }, ()];":                      "stmt:(){array:[(); 2]{NEVER unit:()}}",
		"[{ return; }, { return; }];":             "stmt:(){array:[(); 2]{NEVER NEVER}}",
		"[1u8, { return; }, 2];":                  "stmt:(){array:[u8; 3]{int'u8'#1:u8 NEVER int#2:u8}}",
		"[{ return; }; 3];":                       "stmt:(){repeat#3:[(); 3]{NEVER}}",
		"let x: [(); 2] = [{ return; }; 2];":      "let'x'<[(); 2]>:(){repeat#2:[(); 2]{NEVER}}",
		"let x: [u8; 2] = [1, { return; }];":      "let'x'<[u8; 2]>:(){array:[u8; 2]{int#1:u8 NEVER}}",
		"Box::new({ return; });":                  "stmt:(){variant'Box::new':Box<()>{NEVER}}",
		"let x: Box<()> = Box::new({ return; });": "let'x'<Box<()>>:(){variant'Box::new':Box<()>{NEVER}}",
		"P { a: { return; }, b: 1 };":             "stmt:(){struct'P':P{init'a':!{NEVER} init'b'#1:i32{int#1:i32}}}",
		"E::A({ return; });":                      "stmt:(){variant'E::A'#1:E{NEVER}}",
		// Of a let, an assignment, a statement and what is returned.
		"let x = { return; }; x;":         "let'x':!{NEVER} stmt:(){var'x':()}",
		"let x: u8 = { return; }; x;":     "let'x'<u8>:!{NEVER} stmt:(){var'x':u8}",
		"let mut x = 1; x = { return; };": "let'x'#1:(){int#1:i32} assign:!{var'x':i32 NEVER}",
		"({ return; });":                  "stmt:!{NEVER}",
		"return { return; };":             "return:!{NEVER}",
		"while { return; } {}":            "while:(){NEVER block:()}",
		// Of an argument.
		"one({ return; });":                            "stmt:(){call'one':i32{NEVER}}",
		"two(1, { return; });":                         "stmt:(){call'two':u16{int#1:u8 NEVER}}",
		"let mut x = 1; replace(&mut x, { return; });": "let'x'#1:(){int#1:i32} stmt:(){call'replace':i32{borrow#1:&mut i32{var'x':i32} NEVER}}",
		// Of blocks: the value's type, whatever stands ahead of it.
		"{ return; 1 };":             "stmt:(){block#1:i32{return:! int#1:i32}}",
		"let x: u8 = { return; 1 };": "let'x'<u8>:(){block#1:u8{return:! int#1:u8}}",
		"{ return; print(1); };":     "stmt:!{block:!{return:! stmt:(){call'print':(){int#1:i32}}}}",
		"{ print(1); return; };":     "stmt:!{block:!{stmt:(){call'print':(){int#1:i32}} return:!}}",
		"{ let x = { return; }; };":  "stmt:!{block:!{let'x':!{NEVER}}}",
		"{ loop {} };":               "stmt:!{block:!{loop:!{block:()}}}",
		"{ { return; } };":           "stmt:!{block#1:!{NEVER}}",
		"{ { return; } print(1); };": "stmt:!{block:!{stmt:!{NEVER} stmt:(){call'print':(){int#1:i32}}}}",
	} {
		wantMain(t, body, strings.ReplaceAll(want, "NEVER", "block:!{return:!}"))
	}
	// Where an int, a bool, a Box or an enum is asked for, what does not go on is none.
	wantWrongMain(t, api.ErrType, "({ return; }) @+ { return; };", "({ return; }) @== { return; };", "({ return; }) @& { return; };", "let x: u8 = ({ return; }) @+ { return; };", "({ return; }) @<< 1;", "1 << @{ return; };", "let x: u8 = ({ return; }) @<< 1;",
		"@-{ return; };", "@!{ return; };", "let x: u8 = @!{ return; };", "({ return; }) @as u8;", "let a = [1]; a[@{ return; }];", "print(@{ return; });", "unbox(@{ return; });", "match @{ return; } {}", "match @{ return; } { _ => 1 };")
	// What it is kept as, may be none that is wanted.
	wantWrongMain(t, api.ErrType, "let x: Box<u8> = @Box::new({ return; });", "let x: [u8; 1] = @[{ return; }];", "[{ return; }, @1];", "let x: [u8; 2] = [{ return; }, @1];", "let x: [u8; 2] = @[{ return; }; 2];", "let x = { return; }; x + @1;", "let x = { return; }; let y: u8 = @x;",
		"let x: u8 = if true { return; } else { @true };", "({ return; }) @+ true;", "({ return; }) @+ ();", "true @+ { return; };", "match 1 { 1 => { return; }, 2 => 1u8, _ => @true };", "let x: u8 = { return; @true };", "if true { return; 1 } else { @true };", "let x: u8 = @if { return; } {};")
	wantWrong(t, api.ErrType, "fn main() {} fn f() -> u8 @{ while true { return 1; } }", "fn main() {} fn f() -> u8 { @if true { return 1; } }", "fn main() {} fn f() -> u8 @{ loop { break; } }")
	for _, text := range []string{"loop {}", "return 1;", "loop { return 1; }", "{ return 1; }", "let x = { return 1; };", "loop { while true { break; } }", "return 1; print(2);", "print(2); return 1;", "match read() { _ => { return 1; } }", "if true { return 1; } else { loop {} }", "loop { loop { break; } }"} {
		mustCheck(t, "fn main() {} fn f() -> u8 { "+text+" }")
	}
}
