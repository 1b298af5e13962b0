package model

import (
	"math"
	"testing"

	"ferrule/api"
)

// P10.1: how many steps are told; P10.2.

// Each kind of tree is one step, arms and patterns are none.
func TestSteps(t *testing.T) {
	for _, c := range []struct {
		body  string
		steps int
	}{
		{"", 0}, {"();", 2}, {"1;", 2}, {"true;", 2}, {"{};", 2}, {"{ 1 };", 3}, {"return;", 1}, {"return ();", 2}, {"K;", 2},
		{"let x = 1;", 2}, {"let x = 1; x;", 4}, {"let mut x = 1; x = 2;", 5}, {"let x = 1; -x;", 5}, {"-1;", 2}, {"-K;", 3}, {"!true;", 3}, {"!1;", 3}, {"1 as u8;", 3},
		{"1 + 2;", 4}, {"1 + 2 * 3;", 6}, {"1 < 2;", 4}, {"1 << 2;", 4}, {"true & false;", 4}, {"false && true;", 3}, {"true && true;", 4}, {"true || false;", 3}, {"false || false;", 4},
		{"print(1);", 3}, {"read();", 2}, {"unbox(Box::new(1));", 4}, {"let mut x = 1; replace(&mut x, 2);", 7}, {"zero();", 4}, {"say(1);", 8},
		{"U {};", 2}, {"P { a: 1, b: 2 };", 6}, {"P { b: 2, a: 1 + 1 };", 8}, {"E::N;", 2}, {"E::A(1);", 3}, {"Box::new(1);", 3}, {"[1, 2];", 4}, {"[1; 5];", 3}, {"[1; 0];", 3}, {"let a: [i32; 0] = [];", 2},
		{"let p = P { a: 1, b: 2 }; p.a;", 9}, {"let a = [1, 2]; a[1];", 8}, {"let b = Box::new(1); *b;", 6}, {"let b = Box::new([1, 2]); b[0];", 10}, {"let b = box(1); look(&b);", 14}, {"let mut a = [1, 2]; a[0] = 5;", 9},
		{"if true {};", 4}, {"if false {};", 3}, {"if false {} else {};", 4}, {"if true { 1 } else { 2 };", 5}, {"if false { 1 } else if true { 2 } else { 3 };", 7},
		{"match 1 { 1 => 2, _ => 3 };", 4}, {"match 9 { 1 => 2, 2 => 3, 3 => 4, _ => 5 };", 4}, {"match E::A(1) { E::A(n) => n, _ => 0 };", 5}, {"match E::B(Box::new(1), 2) { E::B(_, _) => {}, _ => {} };", 7}, {"match true { true => (), false => () };", 4},
		{"while false {}", 2}, {"loop { break; }", 3}, {"loop { if true { break; } }", 6}, {"while true { break; }", 4}, {"let mut i = 0; while i < 2 { i = i + 1; }", 24}, {"let mut i = 0; while i < 2 { i = i + 1; continue; }", 26}, {"while { break; true } {}", 3},
	} {
		wantSteps(t, c.body, c.steps)
	}
}

// What ends a run does so behind the steps that lead to it, and takes none itself.
func TestStepsToTheEnd(t *testing.T) {
	for _, c := range []struct {
		text              string
		kind, code, steps int
	}{
		{inMain("1 / 0;"), api.OutExit, 101, 5},
		{inMain("1 / 0; print(1); print(2);"), api.OutExit, 101, 5},
		{inMain("let a = [1, 2]; a[2]; print(1);"), api.OutExit, 101, 9},
		{inMain("let m = -128i8; -m;"), api.OutExit, 101, 6},
		{"fn main() { main(); }", api.OutDepth, 0, 48 * 3},
		{"fn f(n: i32) { f(n); } fn main() { f(1); }", api.OutDepth, 0, 48 * 4},
		// Each turn of fill is Block, Assign, Variant, Variant, Var, Var, Stmt, Call, Int; the last one ends at the Box.
		{inMain(fill), api.OutMemory, 0, 4 + 64*9 + 5},
	} {
		l := taken(t, c.text)
		got := outcome(t, l, nil, plenty)
		if got.kind != c.kind || got.code != c.code || got.steps != c.steps {
			t.Errorf("%.100s: %d %d, %d steps", c.text, got.kind, got.code, got.steps)
		}
		wantFuel(t, l, nil, got, fuelsFor(got)...)
	}
}

// The least fuel with which each number is printed: a tree's step is taken as it is begun, ahead of its kids.
func TestLeastFuel(t *testing.T) {
	for _, c := range []struct {
		body   string
		fuels  []int
		prints []int
	}{
		{"print(1); print(2);", []int{4, 7}, []int{1, 2}},
		{"print({ print(1); 2 });", []int{7, 8}, []int{1, 2}},
		{"P { b: { print(1); 2 }, a: { print(3); 4 } };", []int{8, 14}, []int{1, 3}},
		{"let mut x = 1; x = { print(1); 2 };", []int{8}, []int{1}},
		{"let a = [1, 2]; a[{ print(1); 0 }];", []int{12}, []int{1}},
		{"{ print(1); 2 } ; if { print(3); true } { print(4); };", []int{6, 13, 18}, []int{1, 3, 4}},
		{"let mut i = 0; while { print(i); i < 1 } { i = i + 1; }", []int{8, 21}, []int{0, 1}},
	} {
		l := taken(t, inMain(c.body))
		for k, least := range c.fuels {
			if got := outcome(t, l, nil, least-1); got.kind != api.OutFuel || len(got.print) != k {
				t.Errorf("%s with the fuel %d: %v", c.body, least-1, got)
			}
			if got := outcome(t, l, nil, least); len(got.print) != k+1 || got.print[k] != c.prints[k] {
				t.Errorf("%s with the fuel %d: %v", c.body, least, got)
			}
		}
	}
}

func TestNoFuel(t *testing.T) {
	for _, fuel := range []int{0, -1, -2, math.MinInt, math.MinInt + 1} {
		for _, body := range []string{"", "print(1);", "1 / 0;", "loop {}"} {
			if got := outcome(t, taken(t, inMain(body)), nil, fuel); !got.same(result{}) {
				t.Errorf("%s with the fuel %d: %v", body, fuel, got)
			}
		}
	}
	// The steps that a loop without an end has run are the whole fuel.
	l := taken(t, inMain("print(1); while true {}"))
	for fuel := range 100 {
		if got := outcome(t, l, nil, fuel); got.kind != api.OutFuel || got.steps != fuel {
			t.Errorf("with the fuel %d: %v", fuel, got)
		}
	}
}

// What was printed by one run is not that of another: each has memory of its own.
func TestOwnPrint(t *testing.T) {
	l := taken(t, inMain("print(1); print(2); print(3);"))
	first, _ := Run(l, nil, plenty)
	first.Print[0] = 9
	_ = append(first.Print, 8)
	if second, _ := Run(l, nil, plenty); second.Print[0] != 1 || len(second.Print) != 3 {
		t.Error(second)
	}
}
