package model

import (
	"strings"
	"testing"

	"ferrule/api"
)

// P10.1: places, ExStruct, ExVariant, ExArray, ExRepeat, ExLet, ExAssign, borrows as arguments.

func TestVariables(t *testing.T) {
	wantPrint(t, "let x = 1; let y = x + 1; let x = y + 1; print(x); print(y); { let x = 10; print(x); } print(x); let mut z = x; z = z + 1; print(z); print(x);", 3, 2, 10, 3, 4, 3)
	wantPrint(t, "let mut i = 0; while i < 3 { let mut j = i; j = j + 10; print(j); i = i + 1; } print(i);", 10, 11, 12, 3)
	wantPrint(t, "let _ = 5; let u = (); let mut x = 1; x = { x = 5; x + 1 }; print(x); x = x; print(x);", 6, 6)
}

// What can be copied stays where it was, and each copy is one of its own.
func TestCopies(t *testing.T) {
	wantPrint(t, "let mut a = [1, 2, 3]; let mut b = a; b[0] = 9; print(a[0]); print(b[0]); a = b; a[1] = 8; print(b[1]); print(a[1]); print(a[0]);", 1, 9, 2, 8, 9)
	wantPrint(t, "let mut p = P { a: 1, b: 2 }; let mut r = p; r.a = 5; p.b = 6; print(p.a); print(p.b); print(r.a); print(r.b);", 1, 6, 5, 2)
	wantPrint(t, "let mut p = [P { a: 1, b: 2 }; 2]; let mut r = p; p[0].a = 5; r[1] = p[0]; p[0].a = 7; print(p[0].a); print(p[1].a); print(r[0].a); print(r[1].a);", 7, 1, 1, 5)
	wantPrint(t, "let mut a = [[1; 2]; 2]; a[0][1] = 5; let b = a[0]; a[0] = a[1]; print(b[1]); print(a[0][1]); a[1][0] = 3; print(a[0][0]);", 5, 1, 1)
	wantPrint(t, "let e = E::N; let mut x = 0; match e { E::N => { x = 1; }, _ => {} } print(x); let q = q(); let p = q.p; let n = *q.k; print(p.a + n); print(q.p.b); print(*q.k);", 1, 4, 2, 3)
	wantPrint(t, "let mut b = Box::new([1, 2]); let c = *b; b[0] = 7; print(c[0]); print(b[0]); let mut d = Box::new(P { a: 1, b: 2 }); let e = *d; d.a = e.a + 5; print(e.a); print(d.a);", 1, 7, 1, 6)
	wantRun(t, "enum F { A(i32), B } fn main() { let f = F::A(3); match f { F::A(n) => print(n), _ => {} } match f { F::A(n) => print(n + 1), _ => {} } let mut g = f; g = F::B; match f { F::A(n) => print(n + 2), _ => {} } match g { F::B => print(9), _ => {} } }", nil, api.OutExit, 0, 3, 4, 5, 9)
}

// What can't be copied is moved; whoever has it then may change it.
func TestMoves(t *testing.T) {
	wantPrint(t, "let b = box(1); let mut c = b; *c = 5; print(*c); let d = c; print(*d); let mut e = same(d); *e = *e + 1; print(*e); c = e; print(*c);", 5, 5, 6, 6)
	wantPrint(t, "let a = q(); let mut b = a; b.l[1] = 50; *b.k = 30; b.p.a = 10; print(b.l[0] + b.l[1]); print(*b.k); let c = b; print(c.p.a); print(c.l[1]);", 54, 30, 10, 50)
	wantPrint(t, "let mut n = [box(1), box(2)]; *n[1] = 5; let m = n; print(*m[0] + *m[1]); n = [box(7), box(8)]; print(*n[0]); print(*m[1]);", 6, 7, 5)
	wantPrint(t, "let b = Box::new(box(4)); let c = unbox(b); print(*c); let d = Box::new(c); print(**d); let e = E::B(unbox(d), 2); match e { E::B(x, y) => { let z = x; print(*z + y); }, _ => {} }", 4, 4, 6)
}

// Structs are written in any order; their values are run as they are written.
func TestStructs(t *testing.T) {
	wantPrint(t, "let p = P { b: say(1) as u8, a: say(2) }; print(p.a); print(p.b);", 1, 2, 2, 1)
	wantPrint(t, "let q = Q { l: [say(1), 0, 0], k: box(say(2)), p: P { b: say(3) as u8, a: say(4) } }; print(q.p.a); print(q.p.b); print(*q.k); print(q.l[0]);", 1, 2, 3, 4, 4, 3, 2, 1)
	wantPrint(t, "let q = Q { p: P { a: 1, b: 2 }, l: [3, 4, 5], k: box(6) }; print(q.p.a); print(q.p.b); print(*q.k); print(q.l[2]); U {}; let u = U {}; let v = u;", 1, 2, 6, 5)
	for _, order := range []string{"a: 1, b: 2, c: 3", "a: 1, c: 3, b: 2", "b: 2, a: 1, c: 3", "b: 2, c: 3, a: 1", "c: 3, a: 1, b: 2", "c: 3, b: 2, a: 1"} {
		wantRun(t, "struct S { a: i32, b: i32, c: i32 } fn main() { let s = S { "+order+" }; print(s.a); print(s.b); print(s.c); }", nil, api.OutExit, 0, 1, 2, 3)
	}
}

func TestVariants(t *testing.T) {
	wantPrint(t, "let e = E::B(box(say(1)), say(2)); match e { E::B(x, y) => print(*x + y), _ => print(0) }", 1, 2, 3)
	wantRun(t, "enum F { A(i32, bool, u8), B, C(i32) } fn show(f: F) { match f { F::C(n) => print(n), F::A(a, b, c) => { print(a); print(b); print(c); }, F::B => print(100) } } fn main() { show(F::A(1, true, 3)); show(F::B); show(F::C(5)); }", nil, api.OutExit, 0, 1, 1, 3, 100, 5)
}

func TestArrays(t *testing.T) {
	wantPrint(t, "let a = [say(1), say(2), say(3)]; print(a[0] * 100 + a[1] * 10 + a[2]); let b = [say(4); 3]; print(b[0] + b[1] + b[2]); let c: [i32; 0] = []; let d = [say(5); 0]; let e = [[say(6); 2]; 2]; print(e[1][1]);", 1, 2, 3, 123, 4, 12, 5, 6, 6)
	wantPrint(t, "let a = [0u8; 128]; print(a[127]); let b = [(); 511]; b[510]; let c = [[true; 16]; 8]; print(c[7][15]); let d = [U {}; 255]; d[254];", 0, 1)
	wantPrint(t, "let mut a = [P { a: 1, b: 1 }; 3]; a[1].a = 2; print(a[0].a); print(a[1].a); print(a[2].a);", 1, 2, 1)
}

// The index -1, 0, N - 1 and N, of whatever type it is.
func TestIndexes(t *testing.T) {
	for _, place := range []string{"a[INDEX]", "p.l[INDEX]", "b[INDEX]", "c[1][INDEX]", "d[INDEX].a", "e[INDEX][0]"} {
		start := "let a = [1, 2, 3]; let p = q(); let b = Box::new([1, 2, 3]); let c = [[1, 2, 3]; 2]; let d = [P { a: 1, b: 2 }; 3]; let e = [[1, 2]; 3]; "
		for _, c := range []struct {
			index  string
			panics bool
		}{{"0", false}, {"2", false}, {"2u8", false}, {"zero()", false}, {"3", true}, {"-1", true}, {"3u32", true}, {"4294967295u32", true}, {"-128i8", true}, {"-2147483648", true}, {"2147483647", true}, {"255u8", true}} {
			text := start + "print(5); print(" + strings.ReplaceAll(place, "INDEX", c.index) + " > 0); print(6);"
			if c.panics {
				wantPanic(t, text, 5)
			} else {
				wantPrint(t, text, 5, 1, 6)
			}
		}
	}
	wantPanic(t, "let a: [i32; 0] = []; print(a[0]);")
	wantPanic(t, "let mut a = [1, 2]; a[2] = say(1); print(2);", 1)
	wantPanic(t, "let mut a = [1, 2]; replace(&mut a[2], say(1));")
	wantPrint(t, "let mut a = [1, 2]; a[1] = 5; a[0] = a[1] + 1; print(a[0]); print(a[1]); let i = 1; a[i - 1] = 9; print(a[0]);", 6, 5, 9)
}

// A place is run from the root outwards; an assignment runs its value first.
func TestOrderOfPlaces(t *testing.T) {
	wantPrint(t, "let a = [[1, 2], [3, 4]]; print(a[say(1)][say(0)]); let mut b = a; b[say(0)][say(1)] = say(7); print(b[0][1]);", 1, 0, 3, 7, 0, 1, 7)
	wantPanic(t, "let a = [[1, 2], [3, 4]]; print(a[say(2)][say(0)]);", 2)
	wantPanic(t, "let a = [[1, 2], [3, 4]]; print(a[say(1)][say(2)]);", 1, 2)
	wantPanic(t, "let mut a = [1, 2]; a[say(2)] = say(5);", 5, 2)
	wantPanic(t, "let mut a = [1, 2]; a[say(0)] = panics();")
	wantPrint(t, "let mut x = 1; let mut a = [1, 2]; a[x] = { x = 0; 5 }; print(a[0]); print(a[1]);", 5, 2)
	wantPrint(t, "let mut x = 0; let a = [10, 20]; print(a[{ x = 1; x }] + x); print(x + { x = 5; x } + x);", 21, 11)
}

func TestBorrows(t *testing.T) {
	helpers := ` fn add(r: &mut i32, n: i32) { *r = *r + n; } fn see(r: &i32) -> i32 { *r } fn twice(r: &mut i32) { add(r, 1); add(r, 2); add(&mut *r, 3); }
fn set(p: &mut P) { p.a = p.a * 2; p.b = 9; add(&mut p.a, 1); } fn whole(p: &mut P) { *p = P { b: 3, a: 4 }; } fn on(p: &mut P) { whole(p); set(p); }
fn both(a: &mut i32, b: &mut i32) { let x = *a; *a = *b; *b = x; } fn two(a: &i32, b: &i32) -> i32 { *a * 10 + *b }
fn into(q: &mut Q) { *q.k = 8; q.l[1] = 7; set(&mut q.p); q.k = Box::new(*q.k + 1); } fn sum(q: &Q) -> i32 { q.p.a * 10000 + *q.k * 1000 + q.l[0] * 100 + q.l[1] * 10 + see(&q.l[2]) }
fn first(a: &mut [i32; 3], i: i32) -> i32 { a[i] = 5; a[0] } fn boxed(b: &mut Box<i32>) { **b = 6; *b = Box::new(**b + 1); } fn given(n: i32, r: &mut i32) { *r = n; }`
	run := func(body string, print ...int) {
		t.Helper()
		wantRun(t, inMain(body)+helpers, nil, api.OutExit, 0, print...)
	}
	run("let mut x = 1; add(&mut x, 5); print(x); print(see(&x)); twice(&mut x); print(x);", 6, 6, 12)
	run("let mut p = P { a: 1, b: 2 }; set(&mut p); print(p.a); print(p.b); add(&mut p.a, 10); print(p.a); whole(&mut p); print(p.a); print(p.b); on(&mut p); print(p.a);", 3, 9, 13, 4, 3, 9)
	run("let mut x = 1; let mut y = 2; both(&mut x, &mut y); print(x); print(y); let mut a = [3, 4, 5]; both(&mut a[0], &mut a[2]); print(a[0]); print(a[2]); print(two(&x, &x)); print(two(&a[0], &a[1]));", 2, 1, 5, 3, 22, 54)
	run("let mut q = q(); print(sum(&q)); into(&mut q); print(*q.k); print(sum(&q)); let mut b = Box::new(q); into(&mut *b); print(sum(&*b)); print(b.p.b);", 13456, 9, 39476, 79476, 9)
	run("let mut a = [1, 2, 3]; print(first(&mut a, 2)); print(a[2]); print(first(&mut a, 0)); let mut b = box(1); boxed(&mut b); print(*b); let mut c = Box::new(box(2)); boxed(&mut *c); print(**c);", 1, 5, 5, 7, 7)
	run("let mut x = 1; given(x + 1, &mut x); print(x); let mut a = [1, 2, 3]; given(say(7), &mut a[say(1)]); print(a[1]); add(&mut a[say(0)], say(3)); print(a[0]);", 2, 7, 1, 7, 0, 3, 4)
}

func TestReplace(t *testing.T) {
	wantPrint(t, "let mut x = 1; print(replace(&mut x, 5)); print(x); let mut a = [1, 2]; print(replace(&mut a[1], say(7))); print(a[1]);", 1, 5, 7, 2, 7)
	wantPrint(t, "let mut b = box(1); let c = replace(&mut b, box(2)); print(*b); print(*c); let d = replace(&mut b, c); print(*b); print(*d); b = replace(&mut b, d); print(*b); b = Box::new(unbox(b) + 1); print(*b);", 2, 1, 1, 2, 1, 2)
	wantPrint(t, "let mut q = fresh(); let k = replace(&mut q.k, box(9)); print(*k); print(*q.k); let l = replace(&mut q.l, [7, 8, 9]); print(l[0]); print(q.l[0]); let p = replace(&mut q, fresh()); print(*p.k); print(*q.k); print(p.l[2]);", 3, 9, 4, 7, 9, 3, 9)
	wantPrint(t, "let mut a = [box(1), box(2)]; let b = replace(&mut a[0], box(3)); let c = replace(&mut a[1], b); print(*a[0]); print(*a[1]); print(*c); let mut l = L::C(Box::new(L::N)); match replace(&mut l, L::N) { L::C(r) => print(1), L::N => print(2) } match l { L::C(r) => print(3), L::N => print(4) }", 3, 1, 2, 1, 4)
	wantRun(t, inMain("let mut x = 1; print(swap(&mut x, say(4))); print(x);")+" fn swap(r: &mut i32, n: i32) -> i32 { let old = replace(r, n); let more = *r + old; replace(&mut *r, more) }", nil, api.OutExit, 0, 4, 4, 5)
}
