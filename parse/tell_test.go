package parse

import (
	"strconv"
	"strings"
	"testing"

	"ferrule/api"
)

// What is parsed is held against texts that tell each field that is not zero: kind:text#num@at<types>(kids).

var treeKinds = map[int]string{
	api.ExInt: "int", api.ExBool: "bool", api.ExUnit: "unit", api.ExVar: "var", api.ExNeg: "neg", api.ExNot: "not", api.ExDeref: "deref",
	api.ExBorrow: "borrow", api.ExBin: "bin", api.ExCast: "cast", api.ExCall: "call", api.ExField: "field", api.ExIndex: "index",
	api.ExStruct: "struct", api.ExInit: "init", api.ExVariant: "variant", api.ExArray: "array", api.ExRepeat: "repeat", api.ExBlock: "block",
	api.ExIf: "if", api.ExMatch: "match", api.ExArm: "arm", api.PaInt: "paint", api.PaBool: "pabool", api.PaAny: "any", api.PaVariant: "pavariant",
	api.PaBind: "bind", api.ExWhile: "while", api.ExLoop: "loop", api.ExBreak: "break", api.ExNext: "next", api.ExReturn: "return",
	api.ExLet: "let", api.ExAssign: "assign", api.ExStmt: "stmt",
}

var typeKinds = map[int]string{
	0: "none", api.TyUnit: "unit", api.TyBool: "bool", api.TyI8: "i8", api.TyI16: "i16", api.TyI32: "i32", api.TyU8: "u8", api.TyU16: "u16",
	api.TyU32: "u32", api.TyNamed: "named", api.TyArray: "array", api.TyBox: "box", api.TyRef: "ref", api.TyMut: "mut", api.TyNever: "never",
}

var itemKinds = map[int]string{api.ItFunc: "fn", api.ItStruct: "struct", api.ItEnum: "enum", api.ItConst: "const"}

func tellHead(kind, text string, num int) string {
	if text != "" {
		kind += ":" + text
	}
	if num != 0 {
		kind += "#" + strconv.Itoa(num)
	}
	return kind
}

func tellList[T any](open, closing string, list []T, tell func(T) string) string {
	if len(list) == 0 {
		return ""
	}
	told := make([]string, len(list))
	for i, x := range list {
		told[i] = tell(x)
	}
	return open + strings.Join(told, " ") + closing
}

func tellType(t api.Type) string {
	return tellHead(typeKinds[t.Kind], t.Name, t.N) + tellList("(", ")", t.Elem, tellType)
}

func tellTree(x api.Expr) string {
	told := tellHead(treeKinds[x.Kind], x.Text, x.Num) + "@" + strconv.Itoa(x.At) + tellList("<", ">", x.Ty, tellType) + tellList("(", ")", x.Kids, tellTree)
	if typed := tellType(x.Type); typed != "none" {
		told += " typed " + typed
	}
	return told
}

func tellParam(p api.Param) string {
	told := p.Name + "@" + strconv.Itoa(p.At) + "<" + tellType(p.Type) + ">"
	if p.Mut {
		return "mut:" + told
	}
	return told
}

func tellVariant(v api.Variant) string {
	return v.Name + "@" + strconv.Itoa(v.At) + tellList("<", ">", v.Types, tellType)
}

func tellItem(it api.Item) string {
	told := tellHead(itemKinds[it.Kind], it.Name, it.Num) + "@" + strconv.Itoa(it.At)
	told += tellList("(", ")", it.Params, tellParam) + tellList("{", "}", it.Variants, tellVariant)
	if answer := tellType(it.Type); answer != "none" {
		told += "->" + answer
	}
	if body := tellTree(it.Body); body != "@0" {
		told += " " + body
	}
	return told
}

func tellItems(l []api.Item) string {
	return tellList("", "", l, tellItem)
}

// wantTree asks that a text is one tree.
func wantTree(t *testing.T, text, want string) {
	t.Helper()
	x, at, e := Tree(text)
	if got := tellTree(x); got != want || at != 0 || e != api.OK {
		t.Errorf("Tree(%.200q)\n  = %s, %d, %d\nnot %s", text, got, at, int(e), want)
	}
}

// wantItems asks that a text is a program.
func wantItems(t *testing.T, text, want string) {
	t.Helper()
	l, at, e := Parse(text)
	if got := tellItems(l); got != want || at != 0 || e != api.OK {
		t.Errorf("Parse(%.200q)\n  = %s, %d, %d\nnot %s", text, got, at, int(e), want)
	}
}

// wantBody asks what the one function of a text does.
func wantBody(t *testing.T, text, want string) {
	t.Helper()
	wantItems(t, "fn f() "+text, "fn:f@3->unit "+want)
}

func wantTreeFault(t *testing.T, text string, wantAt int, want api.Errno) {
	t.Helper()
	x, at, e := Tree(text)
	if tellTree(x) != "@0" || at != wantAt || e != want {
		t.Errorf("Tree(%.200q) = %.200s, %d, %d; want nothing, %d, %d", text, tellTree(x), at, int(e), wantAt, int(want))
	}
}

func wantFault(t *testing.T, text string, wantAt int, want api.Errno) {
	t.Helper()
	l, at, e := Parse(text)
	if len(l) != 0 || at != wantAt || e != want {
		t.Errorf("Parse(%.200q) = %.200s, %d, %d; want nothing, %d, %d", text, tellItems(l), at, int(e), wantAt, int(want))
	}
}

func itoa(v int) string { return strconv.Itoa(v) }
