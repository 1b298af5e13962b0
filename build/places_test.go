package build_test

import (
	"fmt"
	"testing"

	"ferrule/api"
	"ferrule/num"
)

// P13.2: places: fields, elements, what is pointed to, as values and where something is brought.

// Indices of each type, read and written there, at the edges of arrays of each kind of element, in each kind of place.
func TestIndices(t *testing.T) {
	forms := []struct{ head, read, set string }{
		{"let mut a = [10, 20, 30];", "print(a[%s]);", "a[%s] = 5; print(a[0] * 10000 + a[1] * 100 + a[2]);"},
		{"let mut a = Box::new([10, 20, 30]);", "print(a[%s]);", "a[%s] = 5; print(a[0] * 10000 + a[1] * 100 + a[2]);"},
		{"let mut a = S { x: true, a: [10, 20, 30], y: 7 };", "print(a.a[%s]);", "a.a[%s] = 5; print(a.a[0] * 10000 + a.a[1] * 100 + a.a[2]);"},
		{"let mut a = [[1, 10], [2, 20], [3, 30]];", "print(a[%s][1]);", "a[%s][1] = 5; print(a[0][1] * 10000 + a[1][1] * 100 + a[2][1]);"},
		{"let mut a = [[1, 10], [2, 20], [3, 30]];", "let b = a[%s]; print(b[1]);", "a[%s] = [9, 5]; print(a[0][1] * 10000 + a[1][1] * 100 + a[2][1]);"},
		{"let mut a = [Box::new(10), Box::new(20), Box::new(30)];", "print(*a[%s]);", "*a[%s] = 5; print(*a[0] * 10000 + *a[1] * 100 + *a[2]);"},
		{"let mut a = [Box::new(10), Box::new(20), Box::new(30)];", "print(*a[%s]);", "a[%s] = Box::new(5); print(*a[0] * 10000 + *a[1] * 100 + *a[2]);"},
		{"let mut a = [10, 20, 30];", "see(&a[%s]);", "set(&mut a[%s]); print(a[0] * 10000 + a[1] * 100 + a[2]);"},
		{"let mut a = [10, 20, 30];", "print(replace(&mut a[%s], 1));", "replace(&mut a[%s], 5); print(a[0] * 10000 + a[1] * 100 + a[2]);"},
		{"let mut a = [S { x: true, a: [1, 1, 10], y: 7 }, S { x: true, a: [1, 1, 20], y: 7 }, S { x: true, a: [1, 1, 30], y: 7 }];", "print(a[%s].a[2]);", "a[%s].a[2] = 5; print(a[0].a[2] * 10000 + a[1].a[2] * 100 + a[2].a[2]);"},
	}
	const others = " struct S { x: bool, a: [i32; 3], y: u8 } fn see(n: &i32) { print(*n); } fn set(n: &mut i32) { *n = 5; }"
	set := []int{52030, 100530, 102005}
	for typ, kind := range kinds {
		least, most := num.Range(kind)
		for _, form := range forms {
			for _, n := range []int{0, 1, 2, 3, 4, -1, least, most} {
				if n < least || n > most {
					continue
				}
				for _, use := range []string{form.read, form.set} {
					want, fault := 10*(n+1), num.Fine
					if n < 0 || n > 2 {
						fault = num.Overflow
					} else if use == form.set {
						want = set[n]
					}
					for _, index := range []string{"i", written(n, typ)} {
						text := "fn main() { let i = read() as " + typ + "; " + form.head + " " + fmt.Sprintf(use, index) + " }" + others
						l := taken(t, text)
						wantNumber(t, l, built(t, l), []int{n}, want, fault, text)
					}
				}
			}
		}
	}
	wantPanic(t, "let a: [i32; 0] = []; print(1); a[0];", 1)
	wantPanic(t, "let a = [(); 5]; a[zero()]; a[4]; print(1); a[5];", 1)
	wantPanic(t, "let a = [(); 5]; print(1); a[{ print(2); say(-1) }]; print(3);", 1, 2, -1)
	wantPanic(t, "let mut a = [1, 2]; a[say(2)] = say(3);", 3, 2)
	wantPanic(t, "let a = [[1, 2], [3, 4]]; print(a[say(1)][say(1)]); a[say(1)][say(2)]; print(5);", 1, 1, 4, 1, 2)
	wantPanic(t, "let a = [[1, 2], [3, 4]]; a[say(2)][say(1)];", 2)
}

// The index of a place may change variables that stand in indices ahead of it, or in the value that is assigned.
func TestIndicesThatStir(t *testing.T) {
	wantPrint(t, "let a = [[1, 2], [3, 4]]; let mut i = 0; print(a[i][{ i = 1; i }]); print(a[i][{ i = 0; 0 }]); print(i);", 2, 3, 0)
	wantPrint(t, "let mut a = [[1, 2], [3, 4]]; let mut i = 1; a[i][{ i = 0; 1 }] = 9; print(a[1][1]); a[i][{ i = 1; 0 }] = i + 7; print(a[0][0]); print(i);", 9, 7, 1)
	wantPrint(t, "let mut a = [0, 0]; let mut x = 5; a[{ x = 6; 1 }] = x; print(a[1]); print(x); let mut p = point(1, 2); let mut b = [p, p]; b[{ p = point(3, 4); 1 }] = p; show(&b[1]); show(&p); a[{ set(&mut x, 1); x }] = x; print(a[1]);", 5, 6, 1, 2, 3, 4, 6)
	wantPrint(t, "let mut a = [1, 2]; let mut i = 0; print(replace(&mut a[i], { i = 1; 7 })); print(a[0]); print(i); let mut b = [point(1, 2), point(3, 4)]; i = 1; let p = setP(&mut b[i], { i = 0; 5 }); show(&p); show(&b[1]);", 1, 7, 1, 3, 4, 5, 9)
	// A Box whose value is assigned is let go by the index.
	wantPrint(t, "let mut a = [0, 0]; let mut c = [point(0, 0); 2]; let b = box(7); a[{ drop(b); 1 }] = *b; print(a[1]); let d = Box::new(point(3, 4)); c[{ let e = d; 1 }] = *d; show(&c[1]);", 7, 3, 4)
	wantRun(t, "fn f(r: &mut P, a: &mut [P; 2]) -> i32 { a[g(r)] = *r; a[0].a = { let x = r.a; r.a = 5; x } + r.a; r.a } fn g(r: &mut P) -> i32 { r.a = 8; r.b = 7; 1 } fn main() { let mut p = P { a: 1, b: 2 }; let mut a = [p, p]; print(f(&mut p, &mut a)); show(&a[1]); show(&a[0]); }"+items, nil, api.OutExit, 0, 5, 1, 2, 13, 2)
}

func TestPlaces(t *testing.T) {
	wantPrint(t, "let mut p = point(1, 2); p.a = 5; print(p.a); p.b = p.b + 1; print(p.b); let r = p; p = point(7, 8); show(&r); show(&p); p = r; show(&p); p = p; show(&p);", 5, 3, 5, 3, 7, 8, 5, 3, 5, 3)
	wantPrint(t, "let mut q = q(); q.p.a = 10; q.l[1] = 50; *q.k = 30; showQ(&q); q.p = point(0, 1); q.l = [1, 2, 3]; q.k = box(9); showQ(&q); let r = q; showQ(&r);", 10, 2, 30, 906, 0, 1, 9, 123, 0, 1, 9, 123)
	wantPrint(t, "let mut b = Box::new(q()); b.p.b = 9; b.l[0] = 7; *b.k = 4; showQ(&*b); show(&b.p); *b = q(); showQ(&*b); let c = b; showQ(&*c); let d = Box::new(Box::new(5)); print(**d);", 1, 9, 4, 756, 1, 9, 1, 2, 3, 456, 1, 2, 3, 456, 5)
	wantPrint(t, "let mut o = O { x: 1 }; o.x = o.x + 1; print(o.x); let p = o; o = O { x: 9 }; print(p.x); print(o.x); let mut a = [o; 1]; a[0].x = 3; print(a[zero()].x); let b = a; a[0] = O { x: 4 }; print(b[0].x); print(a[0].x);", 2, 2, 9, 3, 3, 4)
	wantPrint(t, "let mut o = OB { b: box(1) }; *o.b = 2; print(*o.b); o.b = box(3); print(*o.b); o = OB { b: box(4) }; let p = o; print(*p.b); let mut a = [p]; *a[0].b = 6; print(*a[0].b);", 2, 3, 4, 6)
	wantPrint(t, "let mut n = N { b: [box(1), box(2)] }; n.b[0] = box(5); *n.b[1] = 6; print(*n.b[0]); print(*n.b[1]); n.b = [box(7), box(8)]; print(*n.b[zero()]);", 5, 6, 7)
	// Places of no words.
	wantPrint(t, "let mut u = (); u = (); let v = u; let mut z = U {}; z = U {}; let w = [z; 3]; let x = [(); 2]; let mut y = [(), ()]; y[1] = (); y[zero()]; let b = Box::new(U {}); *b; let c = Box::new(()); let d = unbox(c); print(1);", 1)
	wantRun(t, "fn f(u: &(), v: &mut U, w: &[(); 3]) -> () { let x = *u; *v = U {}; w[2]; replace(v, U {}); *u } fn main() { let u = (); let mut v = U {}; let b = Box::new([(); 3]); f(&u, &mut v, &*b); f(&b[1], &mut v, &*b); print(1); }"+items, nil, api.OutExit, 0, 1)
	// Types of the most words.
	wantPrint(t, "let mut a = [0; 128]; a[127] = 5; a[0] = 4; let b = a; a[127] = 6; print(b[127]); print(a[127]); let mut c = Box::new(b); c[1] = 8; let d = unbox(c); print(d[0] + d[1] + d[127]); let e = [d[127]; 128]; print(e[64]); let mut g = [[[1u8; 4]; 8]; 4]; g[3][7][3] = 200; let h = g; print(h[3][7][3]); print(h[3][7][2]);", 5, 6, 17, 5, 200, 1)
}

// Borrows of each kind of place, handed on, read and changed.
func TestBorrows(t *testing.T) {
	const head = "fn see(n: &i32) { print(*n); } fn see2(n: &i32) { see(n); see(&*n); } fn set2(n: &mut i32, to: i32) { set(n, to); let m = *n + 1; set(&mut *n, m); } fn seeB(b: &Box<i32>) { print(**b); see(&**b); } fn swap(b: &mut Box<i32>, n: i32) -> Box<i32> { replace(b, Box::new(n)) } fn sum(a: &[i32; 3]) -> i32 { a[0] + a[1] + a[2] } fn put(a: &mut [i32; 3], i: i32, n: i32) { a[i] = n; set(&mut a[0], n + 1); } fn change(q: &mut Q) { q.p.a = 20; let n = q.p.a + 1; set(&mut q.p.a, n); *q.k = 9; put(&mut q.l, 2, 8); q.k = swap(&mut q.k, 5); print(*q.k); let k = swap(&mut q.k, 6); q.k = k; print(*q.k); } fn both(a: &mut i32, c: &i32) -> i32 { *a = *a + *c; *a } fn flip(b: &mut bool) { *b = !*b; } fn w(n: &mut u16, e: &mut T) { *n = 65535; *e = T::C; }\n"
	run := func(body string, print ...int) {
		t.Helper()
		wantRun(t, head+inMain(body), nil, api.OutExit, 0, print...)
	}
	run("let mut x = 1; see2(&x); set2(&mut x, 4); print(x); x = x + 1; see(&x); let y = x; set(&mut x, 0); print(y);", 1, 1, 5, 6, 6)
	run("let mut p = point(1, 2); see(&p.a); set2(&mut p.a, 7); show(&p); let mut q = q(); see(&q.p.a); see(&q.l[2]); see(&*q.k); set2(&mut *q.k, 10); showQ(&q); change(&mut q); showQ(&q);", 1, 8, 2, 1, 6, 3, 1, 2, 11, 456, 9, 9, 21, 2, 9, 958)
	run("let mut b = box(1); seeB(&b); set2(&mut *b, 3); see(&*b); let c = swap(&mut b, 8); print(*c); seeB(&b); let mut d = Box::new(Box::new(5)); seeB(&*d); see(&**d); set(&mut **d, 6); let e = swap(&mut *d, 7); print(*e + **d);", 1, 1, 4, 4, 8, 8, 5, 5, 5, 13)
	run("let mut a = [1, 2, 3]; print(sum(&a)); put(&mut a, 1, 5); print(sum(&a)); let mut b = Box::new(a); put(&mut *b, 2, 0); print(sum(&*b)); print(sum(&*b)); let mut n = [a, [4, 5, 6]]; put(&mut n[1], 1, 9); print(sum(&n[1])); see(&n[1][2]); let i = 1; see(&n[i][i]);", 6, 14, 6, 6, 25, 6, 9)
	run("let mut a = [1, 2]; print(both(&mut a[0], &a[1])); let mut p = [point(1, 2), point(5, 6)]; print(both(&mut p[0].a, &p[1].a)); let mut x = 1; let y = 2; print(both(&mut x, &y)); print(x);", 3, 6, 3, 3)
	run("let mut b = true; flip(&mut b); print(b); let mut o = O { x: 1 }; let mut e = T::A; w(&mut o.x, &mut e); print(o.x); match e { T::C => print(3), _ => print(4) } let mut o2 = [O { x: 1 }; 2]; w(&mut o2[1].x, &mut e); print(o2[0].x); print(o2[1].x);", 0, 65535, 3, 1, 65535)
	// What an argument borrows is that of the time when it was run; a value is, too.
	run("let a = [1, 2]; let mut i = 0; let mut x = 5; print(both(&mut x, &a[{ i = 1; i }])); print(i); let mut r = 1; print(both(&mut r, &a[{ x = 9; 0 }])); print(x);", 7, 1, 2, 9)
	run("let mut b = box(1); let a = [1, 2, 3]; print(both(&mut *b, &a[{ let c = box(5); *c - 4 }])); let mut n = 3; let m = [n; 2]; set2(&mut n, m[{ let t = box(1); *t }] + 1); print(n);", 3, 5)
}

// Values are copies: what is changed behind does not change them.
func TestValuesAreCopies(t *testing.T) {
	wantPrint(t, "let mut p = point(1, 2); let a = [p, { p.a = 5; p }, p]; show(&a[0]); show(&a[1]); let s = X::P(p, [p.a, { p.a = 9; p.a }]); match s { X::P(r, l) => { show(&r); print(l[0]); print(l[1]); }, _ => {} }", 1, 2, 5, 2, 5, 2, 5, 9)
	wantPrint(t, "let mut x = 1; let y = x; x = 2; print(y); let mut a = [x, { x = 3; x }, x]; let b = [x; 3]; x = 4; print(a[0] * 100 + a[1] * 10 + a[2]); print(b[2]); a[0] = a[1]; a[1] = 7; print(a[0]); let c = x as u8; x = 5; print(c); let d = { x }; x = 6; print(d); let e = if true { x } else { 0 }; x = 7; print(e);", 1, 233, 3, 3, 4, 5, 6)
	wantPrint(t, "let mut x = 1; print(two(x, { x = 2; x })); print(two(x, { set(&mut x, 5); 3 })); let mut p = point(1, 2); show2(p, { p.a = 7; p }); show2(p, { p = point(0, 0); p });", 12, 23, 1, 2, 7, 2, 7, 2, 0, 0)
	wantPrint(t, "let mut x = 1; print(three(x, 5, { x = 2; x })); print(three({ x = x + 1; x }, x, { x = 7; x })); let mut b = box(1); print(give3(b, 5, { b = box(2); *b })); print(*b);", 152, 337, 152, 2)
}
