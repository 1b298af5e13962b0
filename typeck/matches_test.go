package typeck

import (
	"strconv"
	"testing"

	"ferrule/api"
)

func TestMatches(t *testing.T) {
	wantMain(t, "match 1 { 1 => true, -2 => false, _ => true };", "stmt:(){match:bool{int#1:i32 arm:bool{paint#1:i32 bool#1:bool} arm:bool{paint#-2:i32 bool:bool} arm:bool{paany:i32 bool#1:bool}}}")
	wantMain(t, "match true { true => 1, false => 2 };", "stmt:(){match:i32{bool#1:bool arm:i32{pabool#1:bool int#1:i32} arm:i32{pabool:bool int#2:i32}}}")
	wantMain(t, "let x: u8 = match 5u16 { 5 => 1, _ => 2 };", "let'x'<u8>:(){match:u8{int'u16'#5:u16 arm:u8{paint#5:u16 int#1:u8} arm:u8{paany:u16 int#2:u8}}}")
	wantMain(t, "match 1 { 1 => 2u8, _ => 3 };", "stmt:(){match:u8{int#1:i32 arm:u8{paint#1:i32 int'u8'#2:u8} arm:u8{paany:i32 int#3:u8}}}")
	wantMain(t, "match E::N { E::C(b) => unbox(b), E::N => E::N, E::B(p, q) => E::B(p, q), E::A(n) => E::A(n) };",
		"stmt:(){match:E{variant'E::N':E arm:E{pavariant'E::C'#3:E{pabind'b':Box<E>} call'unbox':E{var'b':Box<E>}} arm:E{pavariant'E::N':E variant'E::N':E}"+
			" arm:E{pavariant'E::B'#2:E{pabind'p'#1:P pabind'q'#2:bool} variant'E::B'#2:E{var'p'#1:P var'q'#2:bool}} arm:E{pavariant'E::A'#1:E{pabind'n'#3:u8} variant'E::A'#1:E{var'n'#3:u8}}}}")
	wantMain(t, "match One::O(1) { One::O(_) => {} }", "match:(){variant'One::O':One{int#1:i8} arm:(){pavariant'One::O':One{pabind'_'#-1:i8} block:()}}")
	wantMain(t, "match 1 { _ => {} }", "match:(){int#1:i32 arm:(){paany:i32 block:()}}")
	wantMain(t, "match true { false => {}, _ => {} }", "match:(){bool#1:bool arm:(){pabool:bool block:()} arm:(){paany:bool block:()}}")
	wantMain(t, "match true { true => {}, false => {}, _ => {} }", "match:(){bool#1:bool arm:(){pabool#1:bool block:()} arm:(){pabool:bool block:()} arm:(){paany:bool block:()}}")
	wantMain(t, "match E::N { E::N => {}, _ => {} }", "match:(){variant'E::N':E arm:(){pavariant'E::N':E block:()} arm:(){paany:E block:()}}")
	wantWrongMain(t, api.ErrType, "match @() {}", "match @() { _ => {} }", "match @[1] { _ => {} }", "match @Box::new(1) { _ => nobody }", "match @zero() {}", "match (@P { a: 1, b: 2 }) { _ => {} }", "match @print(1) {}")
	wantWrongMain(t, api.ErrName, "match @nobody {}", "match 1 { 1 => @nobody, _ => other };", "match 1 { 1 => 2, _ => @nobody };")
	wantWrongMain(t, api.ErrRange, "match @2147483648 {}", "let x: u8 = match 1 { _ => @256 };", "match 1 { 1 => 2u8, _ => @256 };")
	wantWrongMain(t, api.ErrType, "let x: u8 = match 1 { 1 => @true, _ => 1 };", "let x: u8 = match 1 { 1 => 1, _ => @true };", "match 1 { 1 => 1, _ => @true };", "match 1 { 1 => 1, 2 => 1, _ => @2u8 };", "match 1 { 1 => @1, _ => {} }", "let x: u8 = match 1 { _ => @{} };", "match 1 { 1 => {}, _ => @1 };", "let x: u8 = match 1 { 1 => @1i8, _ => 1 };")
}

func TestPatterns(t *testing.T) {
	wantWrongMain(t, api.ErrType,
		"match true { @1 => nobody }", "match E::N { @1 => nobody }", "match true { @-1 => {}, _ => {} }", "match true { @300 => {} }", "match 1 { @true => nobody }", "match E::N { @false => {} }", "match 1 { 1 => {}, @true => {} }",
		"match 1 { @E::N => nobody }", "match true { @E::N => {} }", "match E::N { @One::O(x) => nobody }", "match E::N { @E::Nobody => {} }", "match E::N { @Nobody::N => {} }", "match E::N { @P::a => {} }", "match One::O(1) { @E::N => {} }", "match E::N { E::N => {}, @E::O(a) => {} }",
		"match E::N { @E::Nobody(a, a) => {} }", "match One::O(1) { @One::N => {} }", "match E::N { @Box::new(a) => {} }", "match 1 { @Nobody::N(a, a) => {}, _ => {} }", "match give() { @E::N => {} }")
	for _, end := range ends {
		for _, v := range []int{end.least, end.most} {
			wantTaken(t, "match 0"+end.name+" { "+strconv.Itoa(v)+" => {}, _ => {} }")
		}
		text := "match 0" + end.name + " { @" + strconv.Itoa(end.least-1) + " => nobody, _ => {} }"
		wantWrongMain(t, api.ErrRange, text)
		if end.name != "u32" {
			wantWrongMain(t, api.ErrRange, "match 0"+end.name+" { 0 => {}, @"+strconv.Itoa(end.most+1)+" => nobody }")
		}
	}
	wantMain(t, "match 0u8 { -0 => {}, _ => {} }", "match:(){int'u8':u8 arm:(){paint:u8 block:()} arm:(){paany:u8 block:()}}")
	wantWrongMain(t, api.ErrCount, "match E::N { @E::N(a) => nobody }", "match E::N { @E::A => {} }", "match E::N { @E::A(a, a) => {} }", "match E::N { @E::B(a) => {} }", "match E::N { @E::B(a, b, _) => {} }", "match E::N { @E::A() => {} }", "match E::N { @E::N(_) => {} }", "match E::N { E::N => {}, @E::A(_, _) => {} }")
	wantWrongMain(t, api.ErrTwice, "match E::N { E::B(a, @a) => nobody }", "match E::N { E::N => {}, E::B(x, @x) => {} }", "match E::N { E::B(e, @e) => {}, _ => {} }")
	wantTaken(t, "match E::N { E::B(_, _) => {}, _ => {} }", "match E::N { E::B(a, b) => {}, E::A(a) => {}, _ => {} }", "let a = 1; match E::N { E::B(a, b) => {}, _ => {} }", "match E::N { E::B(E, print) => {}, _ => {} }", "match E::N { E::B(K, M) => { K; M; }, _ => {} }")
	wantWrongMain(t, api.ErrMutable, "match E::N { E::A(a) => { @a = 1; }, _ => {} }")
}

// TestAllCases: arms that leave out, repeat, or come behind _.
func TestAllCases(t *testing.T) {
	all := "E::N => {}, E::A(_) => {}, E::B(_, _) => {}, E::C(_) => {}"
	wantTaken(t, "match E::N { "+all+" }", "match E::N { "+all+", }", "match E::N { "+all+", _ => {} }", "match give() {}", "match give() { _ => {} }", "match One::O(1) { One::O(a) => {} }", "match true { false => {}, true => {} }", "match 1 { _ => {} }", "match true { _ => {} }",
		"match E::N { E::C(_) => {}, E::B(a, _) => {}, E::A(a) => {}, E::N => {} }")
	wantWrongMain(t, api.ErrMatch,
		"@match E::N {}", "@match E::N { E::N => {} }", "@match E::N { E::A(_) => {}, E::B(_, _) => {}, E::C(_) => {} }", "@match E::N { E::N => {}, E::B(_, _) => {}, E::C(_) => {} }", "@match E::N { E::N => {}, E::A(_) => {}, E::C(_) => {} }", "@match E::N { E::N => {}, E::A(_) => {}, E::B(_, _) => {} }",
		"@match true {}", "@match true { true => {} }", "@match true { false => {} }", "@match 1 {}", "@match 1 { 1 => {} }", "@match 1u8 { 0 => {}, 255 => {} }", "@match One::O(1) {}", "let x: u8 = @match true { true => 1 };", "let x: u8 = @match E::N {};", "@match 1 { 1 => { return; } };")
	// Of all 256 numbers of a type, too, _ is asked for.
	every := ""
	for v := range 256 {
		every += strconv.Itoa(v) + "=>{}"
		if v < 255 {
			every += ","
		}
	}
	wantWrongMain(t, api.ErrMatch, "@match 1u8 {"+every+"}")
	wantTaken(t, "match 1u8 {"+every+", _=>{}}")
	wantWrongMain(t, api.ErrMatch, "match 1u8 {"+every+", @255=>{}, _=>{}}", "match 1u8 {"+every+", @0=>nobody, _=>{}}")
	wantWrongMain(t, api.ErrMatch,
		"match 1 { 1 => {}, @1 => nobody, _ => {} }", "match 1 { 1 => {}, 2 => {}, @1 => {}, _ => {} }", "match 1 { 0 => {}, @-0 => {}, _ => {} }", "match -1 { -1 => {}, 1 => {}, @-1 => {}, _ => {} }", "match true { true => {}, @true => nobody }", "match true { true => {}, false => {}, @true => {} }", "match true { false => {}, @false => {} }",
		"match E::N { E::N => {}, @E::N => nobody }", "match E::N { E::A(a) => {}, @E::A(b) => nobody }", "match E::N { E::A(_) => {}, E::N => {}, @E::A(a) => {}, _ => {} }",
		"match 1 { _ => {}, @1 => nobody }", "match 1 { _ => {}, @_ => {} }", "match true { _ => {}, @true => {} }", "match E::N { _ => {}, @E::A(a) => {} }", "match true { true => {}, _ => {}, @false => {} }", "match 1 { _ => {}, @true => {} }", "match E::N { _ => {}, @E::Nobody => {} }", "match 1 { _ => {}, @4294967295 => {} }")
	// An arm's tree comes ahead of the next arm, and all arms ahead of what they leave out.
	wantWrongMain(t, api.ErrName, "match 1 { 1 => @nobody, 1 => other }", "match 1 { _ => @nobody, _ => other }", "match true { true => @nobody }", "match 1 { 1 => { @nobody; } }")
	wantWrongMain(t, api.ErrType, "match true { true => 1, false => @() };", "match 1 { 1 => {}, @true => {} }", "match E::N { E::N => 1, E::A(_) => @() };")
	wantWrongMain(t, api.ErrCount, "match E::N { E::A(a) => {}, @E::A => {} }", "match E::N { E::N => {}, @E::N(a) => {} }")
	wantWrongMain(t, api.ErrTwice, "match E::N { E::B(a, b) => {}, E::B(a, @a) => {} }")
	wantWrongMain(t, api.ErrRange, "match 1u8 { 1 => {}, @256 => {}, 256 => {}, _ => {} }")
}
