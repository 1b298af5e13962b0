package regalloc_test

import (
	"strings"
	"testing"

	"ferrule/api"
	"ferrule/build"
	"ferrule/drops"
	"ferrule/fold"
	"ferrule/lower"
	"ferrule/parse"
	"ferrule/typeck"
)

// Functions of programs, behind build, drops, fold and lower.

// lowered is a program's functions in the low form; none, if a frame is too big.
func lowered(t *testing.T, text string) []api.LowFunc {
	t.Helper()
	items, at, e := parse.Parse(text)
	if e == api.OK {
		items, at, e = typeck.Check(items)
	}
	if e != api.OK {
		t.Fatalf("not typed, %d at %d: %.60s", int(e), at, text[max(0, at-20):])
	}
	l, e := build.Build(items)
	if e == api.OK {
		l, e = drops.Elaborate(items, l)
	}
	if e == api.OK {
		l, e = fold.Fold(l)
	}
	if e != api.OK {
		t.Fatal("not built:", int(e))
	}
	out, e := lower.Lower(l)
	if e != api.OK && e != api.ErrFrame {
		t.Fatal("not lowered:", int(e))
	}
	return out
}

// holdProgram holds what is told of each of a program's functions against the chapter's words, and runs them on their places.
func holdProgram(t *testing.T, s seen, text string, input []int) {
	t.Helper()
	l := lowered(t, text)
	for _, f := range l {
		s["functions"]++
		s.add(byWords(t, text, f))
	}
	if len(l) > 0 {
		sameOnPlaces(t, text, l, input)
	}
}

// items are what the bodies speak of.
const items = ` struct P { a: i32, b: u8 } struct Q { p: P, k: Box<i32>, l: [i32; 3] } enum E { N, A(i32), B(Box<i32>, i32) } enum L { N, C(i32, Box<L>) } const K: i32 = 7; struct B { a: [i32; 40], n: u8 }
fn box(n: i32) -> Box<i32> { Box::new(n) } fn drop(b: Box<i32>) {} fn q() -> Q { Q { p: P { a: 1, b: 2 }, k: box(3), l: [4, 5, 6] } } fn add(x: &mut i32, y: &i32) -> i32 { *x = *x + *y; *x } fn swap(a: &mut P, b: &mut P) { let c = *a; *a = *b; *b = c; }
fn all(l: L) -> i32 { match l { L::N => 0, L::C(n, b) => n + all(unbox(b)) } } fn fib(n: i32) -> i32 { if n < 2 { n } else { fib(n - 1) + fib(n - 2) } } fn both(p: P, a: [i32; 3], n: u16) -> P { P { a: p.a + a[n], b: p.b } } fn ever(n: i32) -> i32 { ever(n + 1) + 1 }
fn fill(b: &mut B, n: i32) { let mut i = 0; while i < 40 { b.a[i] = i * n; i = i + 1; } } fn sum(a: &[i32; 40]) -> i32 { let mut i = 0; let mut s = 0; while i < 40 { s = s + a[i]; i = i + 1; } s }
`

func TestPrograms(t *testing.T) {
	s := seen{}
	for _, body := range []string{
		"", "print(6 * 7);", "let x = read(); print(x + 5); print(x & 7); print(100 / x); print(7 - x); print((x < 4) as i32);",
		"let mut x = 1; let y = 5; print(add(&mut x, &y)); print(x); let z = Box::new(K); add(&mut x, &*z); print(x);",
		"let mut p = P { a: 1, b: 2 }; let mut r = P { b: 4, a: 3 }; swap(&mut p, &mut r); print(p.a); print(r.b);",
		"let a = read(); let b = read(); let mut i = 0; while i < a { let mut j = 0; while j < b { print(i * b + j); j = j + 1; } i = i + fib(i); } print(a - b);",
		"let b = box(1); if read() == 3 { drop(b); } else { print(*b); } print(2);",
		"let x = q(); print(x.l[2]); let y = x; print(y.p.b); let mut z = q(); let old = replace(&mut z.k, box(8)); print(*old); print(*z.k);",
		"match E::B(box(4), 5) { E::B(b, n) => { print(*b + n); }, E::A(n) => print(n), E::N => {} } match read() { 1 => print(1), 3 => print(33), _ => print(0) }",
		"let mut l = L::N; let mut i = 0; while i < 9 { l = L::C(i, Box::new(l)); i = i + 1; } print(all(l)); print(fib(10));",
		"let r = both(P { a: 1, b: 2 }, [10, 20, 30], 1); print(r.a); let mut b = B { a: [0; 40], n: 1 }; fill(&mut b, 3); print(sum(&b.a)); print(ever(1));",
		"let mut i = 0; loop { i = i + 1; if i == 5 { break; } if i % 2 == 0 { continue; } let mut j = i; add(&mut j, &i); print(j); }",
		"let mut a = [[1, 2], [3, 4]]; a[1][0] = 7; let b = a; a[0] = b[1]; let mut i = 0; while i < 2 { print(a[i][1 - i]); i = i + 1; }", "loop { print(read()); }", "loop {}",
	} {
		holdProgram(t, s, "fn main() { "+body+" }"+items, []int{3, 2, 1})
	}
	s.want(t, 50, "functions", "lost", "kept over a call")
}

// TestManyAtOnce: programs that need very many numbers at one time, without a call and with one.
func TestManyAtOnce(t *testing.T) {
	s := seen{}
	for many := 1; many <= 40; many++ {
		reads, call, prints := "", "", ""
		for k := range many {
			name := "x" + strings.Repeat("y", k%30) + strings.Repeat("z", k/30)
			reads += "let " + name + " = read(); "
			prints += "print(" + name + "); "
		}
		for range 2 {
			holdProgram(t, s, "fn f() -> i32 { read() } fn main() { "+reads+call+prints+"}", []int{1, 2, 3, 4, 5, 6, 7})
			call = "print(f()); "
		}
	}
	s.want(t, 20, "slots without calls", "slots with calls")
}

func TestProgramsByChance(t *testing.T) {
	s := seen{}
	for seed := range int64(250) {
		holdProgram(t, s, program(seed, 6+int(seed)%9), []int{1, 2, 3})
	}
	s.want(t, 1000, "functions", "lost", "kept over a call")
	s.want(t, 100, "slot", "kept")
}
