package typeck

import (
	"strconv"
	"strings"
	"testing"

	"ferrule/api"
)

// TestExamples are the chapter's own ones.
func TestExamples(t *testing.T) {
	wantWrong(t, api.ErrRange, "fn main() { let x: u8 = @300; }")
	wantBody(t, "fn main() { let x = 1 + 2u8; }", "main", "let'x':(){bin'+':u8{int#1:u8 int'u8'#2:u8}}")
	wantWrong(t, api.ErrType, "fn main() { if true { @1 } }")
}

// TestLeaves: numbers, bools and unit, with a type wanted and without one.
func TestLeaves(t *testing.T) {
	for body, want := range map[string]string{
		"5;":                 "stmt:(){int#5:i32}",
		"5u16;":              "stmt:(){int'u16'#5:u16}",
		"let x: u8 = 5;":     "let'x'<u8>:(){int#5:u8}",
		"let x: i8 = 5;":     "let'x'<i8>:(){int#5:i8}",
		"true; false;":       "stmt:(){bool#1:bool} stmt:(){bool:bool}",
		"();":                "stmt:(){unit:()}",
		"let x: () = ();":    "let'x'<()>:(){unit:()}",
		"()":                 "unit:()",
		"let x: u32 = 7;":    "let'x'<u32>:(){int#7:u32}",
		"5 as u8;":           "stmt:(){cast<u8>:u8{int#5:i32}}",
		"true as i16;":       "stmt:(){cast<i16>:i16{bool#1:bool}}",
		"K; M;":              "stmt:(){int#-7:i16} stmt:(){int#4000000000:u32}",
		"let x: i16 = K;":    "let'x'<i16>:(){int#-7:i16}",
		"-K;":                "stmt:(){neg:i16{int#-7:i16}}",
		"let x = -5;":        "let'x':(){int#-5:i32}",
		"let x: i8 = -5;":    "let'x'<i8>:(){int#-5:i8}",
		"-5i16;":             "stmt:(){int#-5:i16}",
		"-0;":                "stmt:(){int:i32}",
		"--5;":               "stmt:(){neg:i32{int#-5:i32}}",
		"-(5);":              "stmt:(){int#-5:i32}",
		"let x: i8 = -(-5);": "let'x'<i8>:(){neg:i8{int#-5:i8}}",
		"!5; !true;":         "stmt:(){not:i32{int#5:i32}} stmt:(){not:bool{bool#1:bool}}",
		"let x: u8 = !5;":    "let'x'<u8>:(){not:u8{int#5:u8}}",
		"-(1 + 2);":          "stmt:(){neg:i32{bin'+':i32{int#1:i32 int#2:i32}}}",
	} {
		wantMain(t, body, want)
	}
}

var ends = []struct {
	name        string
	least, most int
}{{"i8", -128, 127}, {"i16", -32768, 32767}, {"i32", -1 << 31, 1<<31 - 1}, {"u8", 0, 255}, {"u16", 0, 65535}, {"u32", 0, 1<<32 - 1}}

// TestRanges: a number at both ends of each type's range, and one beyond each, with a sign and without.
func TestRanges(t *testing.T) {
	for _, end := range ends {
		most, beyond := strconv.Itoa(end.most), strconv.Itoa(end.most+1)
		for text, want := range map[string]string{
			"let x: NAME = " + most + ";": "let'x'<NAME>:(){int#" + most + ":NAME}",
			most + "NAME;":                "stmt:(){int'NAME'#" + most + ":NAME}",
			"0NAME;":                      "stmt:(){int'NAME':NAME}",
			"let x: NAME = 0;":            "let'x'<NAME>:(){int:NAME}",
		} {
			wantMain(t, strings.ReplaceAll(text, "NAME", end.name), strings.ReplaceAll(want, "NAME", end.name))
		}
		if end.name != "u32" {
			wantWrongMain(t, api.ErrRange, "let x: "+end.name+" = @"+beyond+";", "@"+beyond+end.name+";", "let x: "+end.name+" = { @"+beyond+" };")
		}
		if end.least == 0 {
			wantWrongMain(t, api.ErrType, "let x: "+end.name+" = @-1;", "@-1"+end.name+";", "@-0"+end.name+";", "let x: "+end.name+" = @-"+most+";")
			continue
		}
		least, below := strconv.Itoa(end.least), strconv.Itoa(end.least-1)
		wantMain(t, least+end.name+";", "stmt:(){int#"+least+":"+end.name+"}")
		wantMain(t, "let x: "+end.name+" = "+least+";", "let'x'<"+end.name+">:(){int#"+least+":"+end.name+"}")
		wantMain(t, "-"+most+end.name+";", "stmt:(){int#-"+most+":"+end.name+"}")
		wantWrongMain(t, api.ErrRange, "let x: "+end.name+" = -@"+below[1:]+";", "-@"+below[1:]+end.name+";", "-@"+strconv.Itoa(end.most+2)+end.name+";")
		// One beyond the greatest has a negative, but only as one number.
		wantWrongMain(t, api.ErrRange, "-{ @"+least[1:]+end.name+" };", "let x: "+end.name+" = -{ @"+least[1:]+" };")
	}
	wantMain(t, "2147483647; -2147483648;", "stmt:(){int#2147483647:i32} stmt:(){int#-2147483648:i32}")
	wantWrongMain(t, api.ErrRange, "@2147483648;", "-@2147483649;", "@4294967295;", "let x: bool = @2147483648;", "let x: u8 = @2147483648i32;", "let x: i8 = -@32769i16;")
	wantMain(t, "4294967295 == M;", "stmt:(){bin'==':bool{int#4294967295:u32 int#4000000000:u32}}")
	// A range comes ahead of a type that is wanted, and that ahead of nothing.
	wantWrongMain(t, api.ErrType, "let x: u8 = @5i8;", "let x: bool = @5;", "let x: i8 = @-5i16;", "let x: () = @-5;", "let x: u8 = @-5;", "let x: u8 = @-5i8;", "let x: Box<u8> = @5u8;", "let x: u16 = @K;", "let x: bool = @();", "let x: () = @true;")
}

// TestSigns: each sign, with a type wanted and without one.
func TestSigns(t *testing.T) {
	for _, sign := range []string{"+", "-", "*", "/", "%", "&", "|", "^"} {
		wantMain(t, "1 "+sign+" 2;", "stmt:(){bin'"+sign+"':i32{int#1:i32 int#2:i32}}")
		wantMain(t, "1 "+sign+" 2u8;", "stmt:(){bin'"+sign+"':u8{int#1:u8 int'u8'#2:u8}}")
		wantMain(t, "1i8 "+sign+" 2;", "stmt:(){bin'"+sign+"':i8{int'i8'#1:i8 int#2:i8}}")
		wantMain(t, "let x: u16 = 1 "+sign+" 2;", "let'x'<u16>:(){bin'"+sign+"':u16{int#1:u16 int#2:u16}}")
		wantWrongMain(t, api.ErrType, "1u8 "+sign+" @2u16;", "() @"+sign+" ();", "let x: u8 = 1 "+sign+" @2i8;", "let x: u8 = @1i8 "+sign+" 2;", "let x: () = 1 @"+sign+" 2;",
			"let x: Box<u8> = 1 @"+sign+" 2;", "1u8 "+sign+" @();", "let p = P { a: 1, b: 1 }; p @"+sign+" p;", "Box::new(1) @"+sign+" Box::new(2);", "[1] @"+sign+" [1];", "@1 "+sign+" true;", "1u8 "+sign+" @true;")
	}
	for _, sign := range []string{"&", "|", "^"} {
		wantMain(t, "true "+sign+" false;", "stmt:(){bin'"+sign+"':bool{bool#1:bool bool:bool}}")
		wantMain(t, "let x: bool = true "+sign+" false;", "let'x'<bool>:(){bin'"+sign+"':bool{bool#1:bool bool:bool}}")
		wantWrongMain(t, api.ErrType, "true "+sign+" @1;", "let x: bool = @1 "+sign+" 2;", "let x: bool = true "+sign+" @2;", "let x: u8 = @true "+sign+" false;")
	}
	for _, sign := range []string{"+", "-", "*", "/", "%"} {
		wantWrongMain(t, api.ErrType, "true @"+sign+" false;", "let x: bool = true @"+sign+" false;", "let x: bool = 1 @"+sign+" 2;", "let x: bool = 1u8 @"+sign+" 2;")
	}
	for _, sign := range []string{"==", "!=", "<", "<=", ">", ">="} {
		wantMain(t, "1 "+sign+" 2;", "stmt:(){bin'"+sign+"':bool{int#1:i32 int#2:i32}}")
		wantMain(t, "let x: bool = 1 "+sign+" 2u8;", "let'x'<bool>:(){bin'"+sign+"':bool{int#1:u8 int'u8'#2:u8}}")
		wantMain(t, "K "+sign+" 2;", "stmt:(){bin'"+sign+"':bool{int#-7:i16 int#2:i16}}")
		wantWrongMain(t, api.ErrType, "let x: u8 = 1 @"+sign+" 2;", "() @"+sign+" ();", "1u8 "+sign+" @2i8;", "true "+sign+" @2;", "1u8 "+sign+" @false;", "[1] @"+sign+" [1];", "E::N @"+sign+" E::N;", "@1 "+sign+" false;", "@1 "+sign+" ();")
	}
	wantMain(t, "true == false; true != false;", "stmt:(){bin'==':bool{bool#1:bool bool:bool}} stmt:(){bin'!=':bool{bool#1:bool bool:bool}}")
	wantWrongMain(t, api.ErrType, "true @< false;", "true @<= false;", "true @> false;", "true @>= false;")
	for _, sign := range []string{"&&", "||"} {
		wantMain(t, "true "+sign+" false;", "stmt:(){bin'"+sign+"':bool{bool#1:bool bool:bool}}")
		wantWrongMain(t, api.ErrType, "@1 "+sign+" true;", "true "+sign+" @1;", "let x: u8 = true @"+sign+" false;", "@1 "+sign+" 2;", "let x: u8 = @1 "+sign+" 2;", "@() "+sign+" ();")
	}
	for _, sign := range []string{"<<", ">>"} {
		wantMain(t, "1 "+sign+" 2;", "stmt:(){bin'"+sign+"':i32{int#1:i32 int#2:i32}}")
		wantMain(t, "1 "+sign+" 2u8;", "stmt:(){bin'"+sign+"':i32{int#1:i32 int'u8'#2:u8}}")
		wantMain(t, "1u16 "+sign+" 2;", "stmt:(){bin'"+sign+"':u16{int'u16'#1:u16 int#2:i32}}")
		wantMain(t, "let x: i8 = 1 "+sign+" K;", "let'x'<i8>:(){bin'"+sign+"':i8{int#1:i8 int#-7:i16}}")
		wantWrongMain(t, api.ErrType, "true @"+sign+" 1;", "1 "+sign+" @true;", "let x: u8 = @1i8 "+sign+" 1;", "let x: bool = 1 @"+sign+" 2;", "let x: bool = true @"+sign+" 2;", "let x: () = 1 "+sign+" @();", "() @"+sign+" ();")
	}
}

// TestBareNumbers: where such a number takes its type from the other one of its pair.
func TestBareNumbers(t *testing.T) {
	for body, want := range map[string]string{
		"3u8 + 1 + 2;":           "stmt:(){bin'+':u8{bin'+':u8{int'u8'#3:u8 int#1:u8} int#2:u8}}",
		"1 + (2 + 3u8);":         "stmt:(){bin'+':u8{int#1:u8 bin'+':u8{int#2:u8 int'u8'#3:u8}}}",
		"(2 + 3u8) + 1;":         "stmt:(){bin'+':u8{bin'+':u8{int#2:u8 int'u8'#3:u8} int#1:u8}}",
		"-1 < K;":                "stmt:(){bin'<':bool{int#-1:i16 int#-7:i16}}",
		"K < -1;":                "stmt:(){bin'<':bool{int#-7:i16 int#-1:i16}}",
		"-1 == 2i8;":             "stmt:(){bin'==':bool{int#-1:i8 int'i8'#2:i8}}",
		"--1 == 2i8;":            "stmt:(){bin'==':bool{neg:i8{int#-1:i8} int'i8'#2:i8}}",
		"-1 == -2;":              "stmt:(){bin'==':bool{int#-1:i32 int#-2:i32}}",
		"1 == -2i16;":            "stmt:(){bin'==':bool{int#1:i16 int#-2:i16}}",
		"1 == { 2u8 };":          "stmt:(){bin'==':bool{int#1:u8 block#1:u8{int'u8'#2:u8}}}",
		"200u8 > 1;":             "stmt:(){bin'>':bool{int'u8'#200:u8 int#1:u8}}",
		"255 == 1u8;":            "stmt:(){bin'==':bool{int#255:u8 int'u8'#1:u8}}",
		"let x: bool = 1 < 2u8;": "let'x'<bool>:(){bin'<':bool{int#1:u8 int'u8'#2:u8}}",
		"M ^ 1; 1 ^ M;":          "stmt:(){bin'^':u32{int#4000000000:u32 int#1:u32}} stmt:(){bin'^':u32{int#1:u32 int#4000000000:u32}}",
		"1 == 2u8 + 3;":          "stmt:(){bin'==':bool{int#1:u8 bin'+':u8{int'u8'#2:u8 int#3:u8}}}",
	} {
		wantMain(t, body, want)
	}
	// What is not bare is not changed: a block, a sum, a number within another tree.
	wantWrongMain(t, api.ErrType, "({ 1 }) == @2u8;", "1 + 2 == @3u8;", "1 + 2 + @3u8;", "!1 == @2u8;", "1 as i32 == @2u8;", "@-1 == 2u8;", "@-1 + 2u8;", "1u8 == @-2;", "1i32 == @2u8;", "let x = 1; x == @2u8;")
	// The second one is checked ahead of the first one there, and only there.
	wantWrongMain(t, api.ErrRange, "@256 == 1u8;", "@4000000000 == 3000000000;", "9999 == @300u8;", "@300 + 1u8;", "@300u8 + 256u8;", "-@129 == 1i8;")
	wantWrongMain(t, api.ErrName, "4294967295 == @nobody;", "@nobody == 4294967295;", "-4294967295 == @nobody;", "@nobody == other;", "1u8 == @nobody;")
	wantWrongMain(t, api.ErrRange, "let x: i32 = @4294967295 + nobody;", "@4294967295u8 == nobody;")
}
