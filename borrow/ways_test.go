package borrow

import (
	"strings"
	"testing"

	"ferrule/api"
)

// TestIf: moved is what is so behind either way, if that goes on.
func TestIf(t *testing.T) {
	wantTaken(t, "if t { b; } else { c; }", "if t { b; } else { b; }", "if t { print(*b); } b;", "if t { b; return; } b;", "if t { b; return; } else { c; } b;", "if t { b; } else { b; return; } c;", "if t { b; loop {} } b;", "loop { if t { b; break; } b; return; }", "while t { if t { b; break; } *b; }",
		"if t { b; b = give(); } b;", "b; if t { b = give(); } else { b = give(); } b;", "if t { b; b = give(); } else { b; b = give(); } b;", "b; if t { return; } else { b = give(); } b;", "b; if t { b = give(); } else { return; } b;", "if t { b; return; } else { return; }", "if ask(b) { c; } else { c; }",
		"let d = if t { b } else { b };", "if t { b; } else if yes() { b; } else { b; }", "if t { b; return; } else if yes() { b; loop {} } else { c; } b;")
	wantWrong(t, api.ErrMoved, "if t { b; } @b;", "if t { b; } else {} @b;", "if t {} else { b; } @b;", "if t { b; } else { b; } @b;", "if t { b; } else { c; } @b;", "if t { b; } else { c; } @c;", "if t { b; } else { return; } @b;", "if t { return; } else { b; } @b;", "if ask(b) { @b; }", "if ask(b) {} else { @b; }", "if ask(b) {} @b;",
		"b; if t { b = give(); } @b;", "b; if t {} else { b = give(); } @b;", "b; if t { b = give(); } else { c; } @b;", "b; if t { @b; }", "b; if t { @b; } else { b; }", "b; if t {} else { @b; }", "if t { b; @b; }", "if t { b; } else { b; @b; }", "if t { b = give(); b; } @b;",
		"if t { if yes() { b; } } @b;", "if t { if yes() { b; } } else { c; } @b;", "if t { if yes() { b; } else { return; } } @b;", "if t { } else if yes() { b; } else { } @b;", "let d = if t { b } else { c }; @c;", "let d = if t { b } else { give() }; @b;", "b; if t { b = give(); if yes() { b; } } @b;", "if t { b; if yes() { b = give(); } } @b;", "if t { b; if yes() { b = give(); } else { return; } } else { b; } @b;")
}

// TestMatch: likewise of its arms.
func TestMatch(t *testing.T) {
	wantTaken(t, "match x { 1 => { b; }, 2 => { b; }, _ => { c; } }", "match x { 1 => { b; return; }, 2 => { loop { b; return; } }, _ => {} } b;", "match t { true => { b; b = give(); }, false => {} } b;", "b; match x { 1 => { b = give(); }, 2 => { return; }, _ => { b = c; } } b;", "match eat(b) { 1 => { c; }, _ => { c; } }",
		"match e { E::A(d) => { d; }, E::B(_, d) => { d; }, _ => {} }", "match x { _ => { return; } } b; b;")
	wantWrong(t, api.ErrMoved, "match x { 1 => { b; }, _ => {} } @b;", "match x { 1 => {}, 2 => { b; }, _ => {} } @b;", "match x { 1 => {}, _ => { b; } } @b;", "match x { 1 => { b; }, 2 => { return; }, _ => { return; } } @b;", "b; match x { 1 => { c; }, 2 => { @b; }, _ => {} }",
		"b; match x { 1 => { b = give(); }, 2 => {}, _ => { b = give(); } } @b;", "match x { 1 => { b; }, 2 => { b = c; }, _ => {} } @b;", "match x { 1 => { b; }, 2 => { eat(c); }, _ => {} } @c;", "match eat(b) { 1 => { @b; }, _ => {} }", "match { b; 1 } { _ => {} } @b;", "match e { E::N => { @e; }, _ => {} }", "let d = match x { 1 => b, _ => c }; @c;", "let d = match x { 1 => b, _ => c }; @b;")
	// What is moved in one arm is not so in the next one.
	wantTaken(t, "match x { 1 => { b; }, 2 => { b; }, 3 => { print(*b); }, _ => { b; } }")
	// A match without any arm has no way on.
	wantTaken(t, "let z = nobody(); b; match z {} b;", "b; let u = match nobody() {}; b; b;", "if t { b; match nobody() {} } b;")
}

// TestLogical: what stands behind && and || may not be run.
func TestLogical(t *testing.T) {
	for _, sign := range []string{"&&", "||"} {
		as := func(list ...string) []string {
			for k := range list {
				list[k] = strings.ReplaceAll(list[k], "OR", sign)
			}
			return list
		}
		wantTaken(t, as("ask(b) OR ask(c);", "t OR ask(b); c;", "t OR { b; return; true }; b;", "t OR { b; b = give(); true }; b;", "ask(b) OR { b = give(); true }; c;", "b; let u = { b = give(); true } OR ask(b);", "let u = { return; true } OR ask(b); b;", "t OR ask(b) OR ask(c);", "(t OR { b; return; t }) OR ask(b);")...)
		wantWrong(t, api.ErrMoved, as("t OR ask(b); @b;", "ask(b) OR t; @b;", "ask(b) OR ask(@b);", "ask(b) OR ask(c); @c;", "ask(b) OR { b = give(); true }; @b;", "t OR yes() OR ask(b); @b;", "t OR ask(b) OR yes(); @b;", "t OR ask(b) OR ask(@b);", "t OR (yes() OR ask(b)); @b;", "b; t OR ask(@b);", "ask(b) OR { return; t }; @b;")...)
	}
	wantWrong(t, api.ErrMoved, "ask(b) & ask(@b);", "ask(b) | t; @b;", "ask(b) == ask(@b);", "ask(b) & { b = give(); ask(b) }; @b;")
	wantTaken(t, "ask(b) & { b = give(); t }; b;", "ask(b) | { b = give(); t }; b;", "let u = { return; t } & ask(b); b;")
}

// TestLoop: its body is gone through with what it moves till its next turn.
func TestLoop(t *testing.T) {
	wantTaken(t, "loop { b; b = give(); }", "loop { b; break; }", "loop { b; return; }", "loop { b; if t { break; } b = give(); }", "loop { b; b = give(); if t { continue; } }", "loop { if t { b; break; } }", "loop { if t { b; return; } } ", "loop { if t { b; break; } else { continue; } }", "b; loop { b = give(); b; }", "loop { print(*b); if t { b; break; } }",
		"loop { loop { b; break; } break; }", "loop { loop { b; break; } b = give(); }", "loop { b; loop {} }", "loop { b; loop { return; } }", "b; loop { b = give(); break; } b;", "loop { if t { b = give(); break; } b; b = give(); } b;", "loop { b; b = give(); if t { break; } } b;", "loop { let d = b; b = d; }", "b; loop { if t { b = give(); break; } } b;")
	wantWrong(t, api.ErrMoved, "loop { @b; }", "loop { let d = @b; }", "loop { print(*@b); b; }", "loop { if t { @b; } }", "loop { @b; if t { continue; } b = give(); }", "loop { if t { @b; continue; } break; }", "loop { if t { continue; } @b; }", "loop { if t { @b; } else { break; } }", "loop { @b; if t { break; } }", "loop { @b; if t { b = give(); } }",
		"loop { b = @c; b; }", "loop { loop { @b; break; } }", "loop { loop { @b; } }", "loop { if t { loop { @b; break; } } }", "loop { if t { loop { if t { @b; break; } } } }", "loop { @b; loop { break; } }", "loop { loop { print(*@b); if t { break; } } b; }", "loop { loop { if t { break; } b = give(); } @b; }",
		"b; loop { @b; }", "b; loop { @b; break; }", "b; loop { if t { b = give(); } @b; break; }", "loop { if ask(@b) { continue; } break; }", "loop { @b; match x { 1 => { break; }, 2 => { b = give(); }, _ => {} } }")
}

// TestBehindLoop: moved is what is where it is left.
func TestBehindLoop(t *testing.T) {
	wantTaken(t, "loop { if t { break; } b; b = give(); } b;", "loop { break; b; } b;", "loop { if t { b; return; } break; } b;", "loop { if t { b; return; } if t { break; } } b;", "b; loop { if t { b = give(); break; } } b;", "b; loop { b = give(); if t { break; } } b;", "loop { loop { b; b = give(); break; } break; } b;", "while t { if t { b; return; } } b;",
		"b; while { b = give(); t } {} b;", "b; while { b = give(); t } { if t { break; } } b;", "while t { b; b = give(); } b;", "while t { b; return; } b;", "b; loop { loop { b = give(); break; } break; } b;")
	wantWrong(t, api.ErrMoved, "loop { b; break; } @b;", "loop { if t { b; break; } } @b;", "loop { if t { b; break; } break; } @b;", "loop { if t { break; } b; break; } @b;", "b; loop { if t { break; } b = give(); if t { break; } } @b;", "b; loop { break; } @b;", "loop { loop { b; break; } break; } @b;", "b; while t { b = give(); } @b;", "b; while t { b = give(); break; } @b;", "while t { b; break; } @b;", "while t { if t { b; break; } } @b;",
		"b; loop { if t { b = give(); break; } if t { break; } } @b;", "loop { while t { b; break; } break; } @b;", "b; loop { loop { if t { break; } b = give(); } break; } @b;", "loop { if t { if t { b; break; } return; } } @b;", "loop { match x { 1 => { b; break; }, 2 => { break; }, _ => {} } } @b;", "loop { t && { b; break; t }; } @b;", "loop { loop { if t { break; } } if t { b; break; } } @b;")
}

// TestWhile: its condition is a part of each turn, and behind it the loop may be left.
func TestWhile(t *testing.T) {
	wantTaken(t, "while ask(b) { b = give(); }", "while ask(b) { break; }", "while ask(b) { return; }", "while ask(b) { b = give(); } c;", "while ask(b) { b = give(); if t { continue; } }", "while ask(b) { if t { break; } b = give(); }", "while { let d = give(); ask(d) } {}", "while t { b; break; }", "while { b; b = give(); t } { print(*b); }", "while t { b = c; c = give(); }", "b; while { b = give(); t } { b; }")
	wantWrong(t, api.ErrMoved, "while ask(@b) {}", "while ask(@b) { print(1); }", "while ask(@b) { if t { continue; } b = give(); }", "while ask(b) { @b; b = give(); }", "while ask(b) { print(*@b); break; }", "while ask(b) { b = give(); } @b;", "while ask(b) { break; } @b;", "while ask(b) { return; } @b;", "while t { @b; }", "while *@b == 1 { b; }", "while t { @b; if t { break; } }", "while t && ask(@b) {}", "while t { while t { @b; } }", "while t { while ask(@b) { break; } }", "while { while ask(@b) {} t } {}", "while ask(b) { if t { b = give(); continue; } @b; return; }")
	// What leaves it, or goes on, within its condition.
	wantTaken(t, "while { if t { b; break; } t } {} c;", "while { if t { b; b = give(); continue; } t } {} b;", "while { return; t } { b; } b; b;", "while { break; t } { b; } b;", "while { if t { b; return; } t } {} b;")
	wantWrong(t, api.ErrMoved, "while { if t { b; break; } t } {} @b;", "while { if t { @b; continue; } t } {}", "while { b; break; t } {} @b;", "loop { while { if t { @b; break; } t } {} b; }", "b; while { if t { b = give(); break; } t } {} @b;")
}

// TestBehindTheEnd: behind what does not go on nothing counts as moved away, but other errors are told.
func TestBehindTheEnd(t *testing.T) {
	for _, end := range []string{"return;", "loop {}", "if t { return; } else { loop {} }", "match x { 1 => { return; }, _ => { return; } }", "{ return; }", "let u = { return; };", "x = { return; };", "eat({ return; b });", "loop { return; break; }", "if { return; t } {}", "while { return; t } {}", "loop { return; }", "loop { loop {} }", "loop { continue; }", "loop { if t { continue; } }", "match nobody() {}", "l[{ return; 0 }];", "l[{ return; 0 }] = 1;", "set(&mut l[{ return; 0 }]);", "({ return; t }) && t;", "return { x; };"} {
		wantTaken(t, "b; "+end+" b; *b; b;", end+" b; b; c; c; q.p = { q; p }; q;", end+" loop { b; } b;", end+" while ask(b) { b; } b;", end+" if t { b; } else { b; } b;", end+" match x { 1 => { b; b; }, _ => {} } b;", end+" loop { b; break; } b;", end+" t && ask(b); b;", end+" let d = b; d; d;", end+" b; b = give(); b; b;", end+" match e { E::A(d) => { d; d; }, _ => {} }",
			"if t { b; "+end+" } b;", "if t { "+end+" b; } b;", "loop { if t { "+end+" b; } if t { break; } }")
		wantWrong(t, api.ErrMove, end+" q@.k;", "b; "+end+" b; n@[0];")
		wantWrong(t, api.ErrShared, end+" mi(&mut x, @x);", end+" l[@{ l = [1, 2]; 0 }];", end+" bb(&b, @b);")
		wantWrong(t, api.ErrMoved, "if t { "+end+" } b; @b;", "loop { if t { "+end+" b; } @b; }")
	}
	for _, end := range []string{"break;", "continue;", "if t { break; } else { continue; }", "{ break; }", "loop { continue; }", "while t { break; } return;"} {
		wantTaken(t, "loop { "+end+" b; b; }", "loop { "+end+" loop { b; } }", "while t { "+end+" b; *b; }", "loop { if t { "+end+" b; } if t { break; } } b;")
		wantWrong(t, api.ErrMove, "loop { "+end+" q@.k; }")
	}
	wantTaken(t, "loop { if t { b; break; b; } return; } c;")
	wantWrong(t, api.ErrMoved, "loop { if t { b; break; b = give(); } return; } @b;", "loop { if t { @b; continue; b = give(); } }", "while t {} b; @b;", "loop { if t { break; } } b; @b;", "while t { return; } b; @b;", "loop { break; } b; @b;", "match x { 1 => { return; }, _ => {} } b; @b;")
}

// TestFunctions: each begins with nothing moved away, and the first one's error is told.
func TestFunctions(t *testing.T) {
	wantProgram(t, api.OK, "fn f(b: Box<i32>) { b; } fn g(b: Box<i32>) { b; } fn main() { let b = Box::new(1); b; }")
	wantProgram(t, api.ErrMoved, "fn f(b: Box<i32>) { b; @b; } fn g(b: Box<i32>) { b; b; } fn main() {}", "fn f(b: Box<i32>) { b; } fn g(b: Box<i32>) { b; @b; } fn main() { let b = Box::new(Box::new(1)); *b; }")
	wantProgram(t, api.ErrMove, "fn main() { let b = Box::new(Box::new(1)); @*b; } fn g(b: Box<i32>) { b; b; }", "struct S { a: Box<u8> } const K: u8 = 1; enum E { A } fn f(s: S) -> Box<u8> { s@.a } fn main() {}")
}
