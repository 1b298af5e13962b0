package typeck

import (
	"slices"
	"strconv"
	"strings"
	"testing"

	"ferrule/api"
	"ferrule/parse"
	"ferrule/show"
	"ferrule/types"
)

// others are items that the bodies of the tests speak of.
const others = ` struct P { a: u8, b: i32 } struct Q { p: P, k: Box<P>, l: [u16; 3] } struct U {}
enum E { N, A(u8), B(P, bool), C(Box<E>) } enum Z {} enum One { O(i8) }
const K: i16 = -7; const M: u32 = 4000000000;
fn zero() {} fn one(a: u8) -> i32 { 1 } fn two(a: u8, b: bool) -> u16 { 2 } fn look(r: &P) {} fn change(r: &mut P, n: u8) -> bool { true }
fn give() -> Z { loop {} } fn take(b: Box<u8>) -> Box<u8> { b } fn seen(r: &u8) -> u8 { *r } fn set(r: &mut u8) { *r = 1; } fn boxed(r: &Box<P>) {}
`

// inMain is a program whose main has a body; what else it needs stands behind that, so that places in the body are easily told.
func inMain(body string) string { return "fn main() { " + body + " }" + others }

// kindNames are the names by which tellTree calls the kinds of trees.
var kindNames = map[int]string{
	api.ExInt: "int", api.ExBool: "bool", api.ExUnit: "unit", api.ExVar: "var", api.ExNeg: "neg", api.ExNot: "not", api.ExDeref: "deref", api.ExBorrow: "borrow", api.ExBin: "bin", api.ExCast: "cast",
	api.ExCall: "call", api.ExField: "field", api.ExIndex: "index", api.ExStruct: "struct", api.ExInit: "init", api.ExVariant: "variant", api.ExArray: "array", api.ExRepeat: "repeat", api.ExBlock: "block",
	api.ExIf: "if", api.ExMatch: "match", api.ExArm: "arm", api.PaInt: "paint", api.PaBool: "pabool", api.PaAny: "paany", api.PaVariant: "pavariant", api.PaBind: "pabind", api.ExWhile: "while",
	api.ExLoop: "loop", api.ExBreak: "break", api.ExNext: "next", api.ExReturn: "return", api.ExLet: "let", api.ExAssign: "assign", api.ExStmt: "stmt",
}

func tellType(t api.Type) string {
	if t.Kind == api.TyNever {
		return "!"
	}
	return show.Type(t)
}

// tellTree tells a tree, with all but its place: kind'Text'#Num<Ty>:Type{kids}; what is zero is left out.
func tellTree(x api.Expr) string {
	text := kindNames[x.Kind]
	if x.Text != "" {
		text += "'" + x.Text + "'"
	}
	if x.Num != 0 {
		text += "#" + strconv.Itoa(x.Num)
	}
	for _, t := range x.Ty {
		text += "<" + tellType(t) + ">"
	}
	text += ":" + tellType(x.Type)
	if len(x.Kids) > 0 {
		text += "{" + tellTrees(x.Kids) + "}"
	}
	return text
}

func tellTrees(list []api.Expr) string {
	var told []string
	for _, x := range list {
		told = append(told, tellTree(x))
	}
	return strings.Join(told, " ")
}

// tellAll tells a program: its items, and its functions' bodies.
func tellAll(l []api.Item) string {
	text := ""
	for _, it := range l {
		text += strconv.Itoa(it.Kind) + it.Name + "@" + strconv.Itoa(it.At) + "#" + strconv.Itoa(it.Num) + ":" + tellType(it.Type) + "("
		for _, p := range it.Params {
			text += " " + p.Name + "@" + strconv.Itoa(p.At) + strconv.FormatBool(p.Mut) + tellType(p.Type)
		}
		for _, v := range it.Variants {
			text += " " + v.Name + "@" + strconv.Itoa(v.At)
			for _, t := range v.Types {
				text += "," + tellType(t)
			}
		}
		text += ")" + tellTree(it.Body) + "\n"
	}
	return text
}

func mustParse(t *testing.T, text string) []api.Item {
	t.Helper()
	l, at, e := parse.Parse(text)
	if e != api.OK {
		t.Fatalf("%s: no program, %d at %d", text, int(e), at)
	}
	return l
}

func mustCheck(t *testing.T, text string) []api.Item {
	t.Helper()
	l := mustParse(t, text)
	told, at, e := Check(l)
	if e != api.OK || at != 0 {
		t.Fatalf("%.500s: %d at %d", text, int(e), at)
	}
	wantAgain(t, l, told)
	wantSound(t, l, told)
	return told
}

// wantAgain is P7.2: a program that was taken is taken again behind show and parse, with the same types.
func wantAgain(t *testing.T, l, told []api.Item) {
	t.Helper()
	text, e := show.Items(l)
	if e != api.OK {
		t.Fatalf("no text: %d", int(e))
	}
	again, at, e := Check(mustParse(t, text))
	if e != api.OK || at != 0 {
		t.Fatalf("%.500s is not taken any more: %d at %d", text, int(e), at)
	}
	same := slices.EqualFunc(told, again, func(a, b api.Item) bool {
		return a.Name == b.Name && tellTree(a.Body) == tellTree(b.Body)
	})
	if !same {
		t.Fatalf("%.500s:\n%.2000s\nis not\n%.2000s", text, tellAll(again), tellAll(told))
	}
}

// wantSound asks what holds of each told program: all but the bodies is as it was, each tree stands where it stood, and has a type.
func wantSound(t *testing.T, l, told []api.Item) {
	t.Helper()
	if len(l) != len(told) {
		t.Fatalf("%d items, not %d", len(told), len(l))
	}
	for k := range l {
		a, b := l[k], told[k]
		body := b.Body
		a.Body, b.Body = api.Expr{}, api.Expr{}
		if tellAll([]api.Item{a}) != tellAll([]api.Item{b}) {
			t.Fatalf("%s is not %s", tellAll([]api.Item{b}), tellAll([]api.Item{a}))
		}
		if l[k].Kind == api.ItFunc {
			wantPlaces(t, told, l[k].Body, body)
		}
	}
}

func derefs(x api.Expr) int {
	if x.Kind != api.ExDeref {
		return 0
	}
	return 1 + derefs(x.Kids[0])
}

// wantPlaces holds a told tree against the one that was given: where it stands, how many kids it has, that it has a type with words.
func wantPlaces(t *testing.T, items []api.Item, given, told api.Expr) {
	t.Helper()
	if given.At != told.At {
		t.Fatalf("%s is at %d, not at %d", tellTree(told), told.At, given.At)
	}
	if _, ok := types.Words(items, told.Type); !ok && told.Type.Kind != api.TyNever {
		t.Fatalf("%s has a type without words", tellTree(told))
	}
	number := told.Kind == api.ExInt && (given.Kind == api.ExVar || given.Kind == api.ExNeg)
	if number {
		return
	}
	if given.Kind != told.Kind || given.Text != told.Text || len(given.Kids) != len(told.Kids) || len(given.Ty) != len(told.Ty) {
		t.Fatalf("%s was %s", tellTree(told), tellTree(given))
	}
	for k, kid := range told.Kids {
		for more := derefs(kid) - derefs(given.Kids[k]); more > 0; more-- {
			if kid.At != told.At {
				t.Fatalf("going through at %d, not at %d", kid.At, told.At)
			}
			kid = kid.Kids[0]
		}
		wantPlaces(t, items, given.Kids[k], kid)
	}
}

// wantBody asks how the statements and the value of a function are told.
func wantBody(t *testing.T, text, name, want string) {
	t.Helper()
	l := mustCheck(t, text)
	body := l[types.Find(l, api.ItFunc, name)].Body
	if got := tellTrees(body.Kids); got != want {
		t.Errorf("%.200s\nis told as %s\n      not as %s", text, got, want)
	}
}

// wantMain asks how main's statements are told.
func wantMain(t *testing.T, body, want string) {
	t.Helper()
	wantBody(t, inMain(body), "main", want)
}

// wantTaken asks whether nothing is against main's body.
func wantTaken(t *testing.T, bodies ...string) {
	t.Helper()
	for _, body := range bodies {
		mustCheck(t, inMain(body))
	}
}

// wantWrong asks of a program in which an @ marks where something is wrong; it is taken out ahead of the call. None: it is at 0.
func wantWrong(t *testing.T, e api.Errno, marked ...string) {
	t.Helper()
	for _, text := range marked {
		at := max(0, strings.Index(text, "@"))
		wantFault(t, mustParse(t, strings.Replace(text, "@", "", 1)), text, at, e)
	}
}

func wantFault(t *testing.T, l []api.Item, text string, at int, e api.Errno) {
	t.Helper()
	told, gotAt, got := Check(l)
	if gotAt != at || got != e {
		t.Errorf("%.300s: %d at %d, not %d at %d", text, int(got), gotAt, int(e), at)
	}
	if len(told) > 0 {
		t.Errorf("%.300s: items beside the error", text)
	}
}

// wantWrongMain asks of bodies of main.
func wantWrongMain(t *testing.T, e api.Errno, marked ...string) {
	t.Helper()
	for _, body := range marked {
		wantWrong(t, e, inMain(body))
	}
}
