package shapes_test

import (
	"math"
	"testing"

	"ferrule/api"
	"ferrule/parse"
	"ferrule/shapes"
	"ferrule/typeck"
)

func TestOfTellsNoOtherKinds(t *testing.T) {
	for _, kind := range []int{0, -1, api.ExStmt + 1, 99, math.MinInt, math.MaxInt} {
		if s, is := shapes.Of(kind); is || s != (shapes.Shape{}) {
			t.Errorf("%d has a shape: %v", kind, s)
		}
	}
	for kind := api.ExInt; kind <= api.ExStmt; kind++ {
		if _, is := shapes.Of(kind); !is {
			t.Errorf("%d has no shape", kind)
		}
	}
}

// The kinds of trees by how many kids the grammar gives them, from 0 on; n: with no end.
func TestTakes(t *testing.T) {
	most := 6
	takes := map[int][2]int{api.ExIf: {2, 3}, api.ExReturn: {0, 1}, api.ExMatch: {1, most}}
	for _, kind := range []int{api.ExInt, api.ExBool, api.ExUnit, api.ExVar, api.PaInt, api.PaBool, api.PaAny, api.PaBind, api.ExBreak, api.ExNext} {
		takes[kind] = [2]int{0, 0}
	}
	for _, kind := range []int{api.ExNeg, api.ExNot, api.ExDeref, api.ExBorrow, api.ExCast, api.ExField, api.ExInit, api.ExRepeat, api.ExLoop, api.ExLet, api.ExStmt} {
		takes[kind] = [2]int{1, 1}
	}
	for _, kind := range []int{api.ExBin, api.ExIndex, api.ExArm, api.ExWhile, api.ExAssign} {
		takes[kind] = [2]int{2, 2}
	}
	for _, kind := range []int{api.ExCall, api.ExStruct, api.ExVariant, api.ExArray, api.ExBlock, api.PaVariant} {
		takes[kind] = [2]int{0, most}
	}
	for kind := api.ExInt; kind <= api.ExStmt; kind++ {
		s, _ := shapes.Of(kind)
		for n := range most + 1 {
			if want := takes[kind][0] <= n && n <= takes[kind][1]; s.Takes(n) != want {
				t.Errorf("a tree of %d with %d kids: %t", kind, n, !want)
			}
		}
	}
}

// What has a meaning in trees of which kind.
func TestFieldsWithMeaning(t *testing.T) {
	for kind := api.ExInt; kind <= api.ExStmt; kind++ {
		want := shapes.NoNum
		switch kind {
		case api.ExInt, api.ExRepeat, api.PaInt:
			want = shapes.AnyNum
		case api.ExBool, api.ExBorrow, api.ExBlock, api.PaBool, api.ExLet:
			want = shapes.FlagNum
		}
		text, written := false, kind == api.ExCast || kind == api.ExLet
		switch kind {
		case api.ExInt, api.ExVar, api.ExBin, api.ExCall, api.ExField, api.ExStruct, api.ExInit, api.ExVariant, api.PaVariant, api.PaBind, api.ExLet:
			text = true
		}
		if s, _ := shapes.Of(kind); s.Num != want || s.Text != text || s.Types != written {
			t.Errorf("%d: %+v", kind, s)
		}
	}
}

func TestIsPlace(t *testing.T) {
	for kind := -1; kind <= api.ExStmt+1; kind++ {
		want := kind == api.ExVar || kind == api.ExField || kind == api.ExIndex || kind == api.ExDeref
		if shapes.IsPlace(kind) != want {
			t.Errorf("%d: %t", kind, !want)
		}
	}
}

// Typed is asked more in the tests of the layers that lean on it: here, whether it takes what typeck tells, and nothing of parse.
func TestTyped(t *testing.T) {
	l, _, e := parse.Parse("struct P { a: u8, b: [i8; 2] } enum E { A, B(u8) } fn f(p: &mut P, mut n: u8) -> u8 { p.a = n; g(&p.b[0]); match E::B(1) { E::B(x) => x, _ => { return 2; } } } fn g(r: &i8) {} fn main() { while true { if false { break; } else if !true { continue; } } loop {} }")
	if e != api.OK {
		t.Fatal(int(e))
	}
	told, _, e := typeck.Check(l)
	if e != api.OK {
		t.Fatal(int(e))
	}
	if shapes.Typed(l) || !shapes.Typed(told) || !shapes.Typed(nil) || !shapes.Typed(told[:2]) {
		t.Error(shapes.Typed(l), shapes.Typed(told), shapes.Typed(nil), shapes.Typed(told[:2]))
	}
}
