package model

import (
	"slices"
	"strconv"
	"strings"
	"testing"

	"ferrule/api"
)

// P10.1: ExBlock, ExIf, ExMatch, ExWhile, ExLoop, ExBreak, ExNext, ExReturn, calls of functions.

func TestBlocks(t *testing.T) {
	wantPrint(t, "{ print(1); { print(2); } } print({ print(3); 4 }); let x = { let y = 5; y + { let y = y + 1; y } }; print(x); let u = { x; }; {}", 1, 2, 3, 4, 11)
	wantRun(t, "fn main() {}", nil, api.OutExit, 0)
	wantRun(t, "fn f() {} fn main() { f() }", nil, api.OutExit, 0)
}

func TestChoices(t *testing.T) {
	wantPrint(t, "if yes() { print(1); } if no() { print(2); } if yes() { print(3); } else { print(4); } if no() { print(5); } else { print(6); } if no() { print(7); } else if yes() { print(8); } else { print(9); } if no() { print(10); } else if no() { print(11); }", 1, 3, 6, 8)
	wantPrint(t, "print(if yes() { 1 } else { 2 }); print(if no() { 1 } else if no() { 2 } else { 3 }); let b = if yes() { box(1) } else { box(2) }; print(*b); if ask(7, true) && ask(8, false) { print(9); }", 1, 3, 1, 7, 8)
}

func TestMatches(t *testing.T) {
	wantPrint(t, "let mut i = -1; while i < 4 { print(match i { 0 => 10, -1 => 11, 2 => say(12), _ => 13 }); i = i + 1; }", 11, 10, 13, 12, 12, 13)
	wantPrint(t, "match yes() { true => print(1), false => print(2) } match no() { true => print(3), _ => print(4) } match 255u8 { 255 => print(5), _ => print(6) } match LEAST { -128 => print(7), _ => print(8) }", 1, 4, 5, 7)
	wantPrint(t, "match say(1) { 2 => print(2), _ => print(3) } print(match E::A(5) { E::N => 0, E::A(n) => n + 1, E::B(b, n) => *b + n, E::C(b, c) => *b + *c }); print(match E::B(box(1), 2) { E::N => 0, E::A(n) => n + 1, E::B(b, n) => *b + n, E::C(b, c) => *b + *c }); print(match E::C(box(4), box(5)) { E::C(_, c) => *c, _ => 0 }); print(match E::C(box(4), box(5)) { E::C(b, _) => *b, _ => 0 }); match E::N { E::N => print(8), _ => print(9) }", 1, 3, 6, 3, 5, 4, 8)
	wantPrint(t, "let x = 1; match E::A(2) { E::A(x) => { print(x); let x = x + 1; print(x); }, _ => {} } print(x); match E::B(box(3), 4) { E::B(a, b) => { let c = a; print(*c * 10 + b); }, _ => {} }", 2, 3, 1, 34)
	// A place that can be copied is matched as a copy.
	wantRun(t, "enum F { A(i32), B } fn main() { let mut f = F::A(1); match f { F::A(n) => { f = F::B; print(n); }, F::B => print(2) } match f { F::A(n) => print(n), F::B => print(3) } }", nil, api.OutExit, 0, 1, 3)
}

func TestLoops(t *testing.T) {
	wantPrint(t, "let mut i = 0; while i < 3 { print(i); i = i + 1; } print(i); while no() { print(9); } while i < 0 {} ", 0, 1, 2, 3)
	wantPrint(t, "let mut i = 0; loop { if i == 3 { break; } i = i + 1; if i == 2 { continue; } print(i); } print(i);", 1, 3, 3)
	wantPrint(t, "let mut i = 0; while i < 6 { i = i + 1; if i == 2 { continue; } if i == 5 { break; } print(i); } print(i);", 1, 3, 4, 5)
	// The innermost loop is meant, also out of blocks, ifs and matches; a condition is asked again behind continue.
	wantPrint(t, "let mut i = 0; while ask(100 + i, i < 2) { i = i + 1; let mut j = 0; loop { j = j + 1; match j { 1 => { continue; }, 3 => { { if yes() { break; } } }, _ => {} } print(j); } print(10 + i); }", 100, 2, 11, 101, 2, 12, 102)
	wantPrint(t, "let mut i = 0; loop { while yes() { i = i + 1; if i > 2 { break; } } print(i); break; } print(7);", 3, 7)
	// A break or continue in a condition is of that while.
	wantPrint(t, "let mut i = 0; while { i = i + 1; if i == 3 { break; } yes() } { print(i); } print(i); while { i = i + 1; if i < 6 { continue; } i < 8 } { print(i); } print(i);", 1, 2, 3, 6, 7, 8)
	wantRun(t, inMain("while true {}"), nil, api.OutFuel, 0)
	wantRun(t, inMain("print(1); loop {}"), nil, api.OutFuel, 0, 1)
	wantRun(t, inMain("loop { continue; }"), nil, api.OutFuel, 0)
}

// Trees that are left in the midst are left whole: nothing that comes behind in them is run.
func TestLeftInTheMidst(t *testing.T) {
	wantPrint(t, "loop { print(say(1) + { break; }); } print(2);", 1, 2)
	wantPrint(t, "let mut i = 0; while i < 2 { i = i + 1; let x = [say(i), { if i == 1 { continue; } 5 }, say(10)]; print(x[1]); }", 1, 2, 10, 5)
	wantPrint(t, "loop { let p = P { b: say(1) as u8, a: { break; } }; print(9); } loop { drop(box({ break; })); } loop { E::A({ break; }); } loop { say(1) < { break; }; } loop { ask(1, { break; }); } loop { match { break; 5 } { 5 => print(8), _ => {} } } loop { let mut x = 1; x = { break; 2 }; print(9); } print(3);", 1, 1, 3)
	wantPrint(t, "let mut a = [1, 2]; loop { a[{ break; 0 }] = say(5); } print(a[0]); loop { if { break; yes() } { print(9); } } loop { while { break; yes() } { print(7); break; } print(8); break; } loop { no() || { break; no() }; }", 5, 1, 8)
	wantPrint(t, "print(1); return; print(2);", 1)
	wantPrint(t, "loop { while yes() { { match 1 { 1 => { if yes() { print(1); return; } }, _ => {} } } print(2); } print(3); }", 1)
}

func TestFunctions(t *testing.T) {
	run := func(text string, print ...int) { t.Helper(); wantRun(t, text+items, nil, api.OutExit, 0, print...) }
	run("fn f(a: i32, b: bool) -> i32 { if b { return a; } print(5); a + 1 } fn main() { print(f(1, true)); print(f(2, false)); f(say(3), ask(4, true)); }", 1, 5, 3, 3, 4)
	run("fn f(mut n: i32) -> i32 { n = n + 1; n } fn main() { let n = 5; print(f(n)); print(n); print(f(f(f(n)))); }", 6, 5, 8)
	run("fn fact(n: i32) -> i32 { if n == 0 { 1 } else { n * fact(n - 1) } } fn main() { print(fact(10)); let mut i = 0; while i < 5 { print(fact(i)); i = i + 1; } }", 3628800, 1, 1, 2, 6, 24)
	run("fn even(n: i32) -> bool { if n == 0 { true } else { odd(n - 1) } } fn odd(n: i32) -> bool { if n == 0 { return false; } even(n - 1) } fn main() { print(even(10)); print(odd(7)); print(even(7)); }", 1, 1, 0)
	run("fn p(n: i32) -> P { P { a: n, b: 1 } } fn a(x: P) -> [i32; 2] { [x.a, x.b as i32] } fn u() -> () { return (); } fn main() { let x = a(p(4)); print(x[0] + x[1]); u(); let y = u(); }", 5)
	run("fn r(n: i32) -> i32 { loop { if n > 2 { return n; } let mut i = 0; while yes() { i = i + 1; match i { 3 => { return i * 10; }, _ => { if i > n { return i; } } } } } } fn main() { print(r(3)); print(r(2)); print(r(1)); }", 3, 30, 2)
	run("fn r() -> i32 { say(1) + { return say(2); } } fn s() -> i32 { return { return 3; }; } fn main() { print(r()); print(s()); }", 1, 2, 2, 3)
	// A variable is each call's own.
	run("fn f(n: i32) -> i32 { let mut x = n; if n > 0 { f(n - 1); x = x + 10; } print(x); x } fn main() { f(2); }", 0, 11, 12)
}

// deepText is a program in which so many calls are under way at once, main among them.
func deepText(calls int) string {
	return "fn f(n: i32) { print(n); if n > 1 { f(n - 1); } print(n); } fn main() { f(" + strconv.Itoa(calls-1) + "); print(1000); }"
}

// MaxDepth calls may be under way, and not one more; those that are over do not count.
func TestDepth(t *testing.T) {
	back := down(47, 1)
	slices.Reverse(back)
	wantRun(t, deepText(api.MaxDepth), nil, api.OutExit, 0, slices.Concat(down(47, 1), back, []int{1000})...)
	wantRun(t, deepText(api.MaxDepth+1), nil, api.OutDepth, 0, down(48, 2)...)
	wantRun(t, "fn main() { main(); }", nil, api.OutDepth, 0)
	again := strings.Replace(deepText(api.MaxDepth), "f(47); print(1000);", "f(47); f(47); let mut i = 0; while i < 100 { f(1); i = i + 1; }", 1)
	if got := outcome(t, taken(t, again), nil, plenty); got.kind != api.OutExit || len(got.print) != 4*47+200 {
		t.Error(got)
	}
	// Arguments are run ahead of the call that is one too many, and calls in arguments are over by then.
	text := "fn f(n: i32, m: i32) -> i32 { if n == 1 { return m; } f(n - 1, { print(n); n }) } fn main() { print(f(47, 0)); print(f(48, f(47, 5))); }"
	wantRun(t, text, nil, api.OutDepth, 0, slices.Concat(down(47, 2), []int{2}, down(47, 2), down(48, 2))...)
	// What the language has itself is no call.
	wantRun(t, "fn f(n: i32) { if n > 1 { f(n - 1); } else { print(read()); let mut b = Box::new(1); print(replace(&mut *b, 2)); print(unbox(b)); } } fn main() { f(47); }", []int{5}, api.OutExit, 0, 5, 1, 2)
}

// down are the numbers from one down to another.
func down(from, to int) []int {
	var all []int
	for n := from; n >= to; n-- {
		all = append(all, n)
	}
	return all
}
