package build_test

import (
	"strings"
	"testing"

	"ferrule/api"
)

// P13.2: what an argument borrows of a Box, and an index of a later one lets go: what the Box held is there still. Borrow takes these programs.

// lenders are functions that are given a borrow of something, and one of an element.
const lenders = ` struct A1 { v: i32, b: Box<A2> } struct A2 { c: [Box<i32>; 2], w: i32 } fn see(x: &i32, y: &i32) { print(*x); let c = box(77); print(*x); } fn more(x: &mut i32, y: &i32) { *x = *x + 10; let c = box(66); print(*x); } fn seeP(x: &P, y: &i32) { show(x); let c = [box(4), box(5)]; show(x); } fn moreP(x: &mut P, y: &i32) { x.a = x.a + 1; let n = x.a * 2; let p = replace(x, P { a: n, b: 7 }); show(&p); show(&*x); } fn both(x: &i32, y: &i32, z: &i32) { print(*x * 100 + *y * 10 + *z); } fn eat(b: Box<i32>) -> i32 { *b } fn eatLater(n: i32, b: Box<i32>) -> i32 { eat(b) + n } fn eat3(p: P, n: i32, b: Box<i32>, c: Box<i32>) {} fn alias(x: &mut i32, y: &i32, b: Box<i32>) { *x = 5; print(*b); } fn c2() -> Box<i32> { box(2) } fn a1() -> A1 { A1 { v: 1, b: Box::new(A2 { c: [box(2), box(3)], w: 4 }) } } fn eatA(a: A1) {} fn pointBox(a: i32) -> Box<P> { Box::new(point(a, 2)) } fn seeL(x: &[i32; 3], y: &i32) { print(x[0] * 100 + x[1] * 10 + x[2]); }
fn given(b: Box<i32>, p: P, mut c: Box<i32>, q: Box<P>) -> P { let a = [1, 2]; see(&*b, &a[{ let d = b; 0 }]); see(&*c, &a[{ c = box(5); 0 }]); print(*c); seeP(&*q, &a[{ q; 1 }]); p } fn unit(u: &(), y: &i32) { let v = *u; print(*y); } fn inner(b: &mut Box<i32>, a: &[i32; 2]) { see(&**b, &a[{ *b = box(8); 0 }]); more(&mut **b, &a[{ replace(b, box(9)); 1 }]); }
`

// lend asks of a body whether both forms agree, what is printed, if that is told, and whether as many Boxes are live behind it.
func lend(t *testing.T, body string, print ...int) {
	t.Helper()
	text := strings.Replace(inMain("let a = [1, 2]; "+body), items, lenders+items, 1)
	if len(print) > 0 {
		wantRun(t, text, nil, api.OutExit, 0, print...)
	}
	l := taken(t, strings.Replace(inMain("let a = [1, 2]; "+body+fill), items, lenders+items, 1))
	if got := wantAgree(t, l, built(t, l), nil); got.Kind != api.OutMemory {
		t.Error(body, got)
	}
}

func TestBorrowedOfBoxesThatAreLetGo(t *testing.T) {
	// By whatever way it is let go.
	for _, way := range []string{
		"b = box(5);", "let c = b;", "b;", "drop(b);", "unbox(b);", "let c = unbox(b);", "replace(&mut b, box(5));", "let c = replace(&mut b, box(5));", "let c = [b, box(2)];", "let c = OB { b: b };", "let c = [OB { b: b }];", "match E::B(b, 0) { _ => {} }", "match E::B(b, 0) { E::B(_, n) => {}, _ => {} }", "match E::C(box(2), b) { E::C(c, d) => {}, _ => {} }", "match E::C(b, box(3)) { E::C(_, d) => print(*d), _ => {} }", "let e = E::C(box(2), b);", "if yes() { b = box(5); }", "if no() { b = box(5); }", "let mut i = 0; while i < 70 { b = box(i); i = i + 1; }", "let mut i = 0; loop { let t = [i; 3]; if i == 5 { break; } i = i + 1; b = box(t[1]); }", "let c = b; let d = c;", "let mut c = box(2); c = b; c = box(3);", "let c = [box(1), b]; let d = c;", "eat(b);", "eatLater(1, same(b));", "{ let c = { b }; }", "b; b = box(6);", "match 1 { 1 => { b = box(3); }, _ => { b; } }", "loop { let c = b; break; }", "let mut i = 0; while i < 2 { i = i + 1; if i == 1 { b = box(i); continue; } b = box(7); }",
	} {
		// Held against the model alone, as some print something, too.
		for _, body := range []string{"see(&*b, &a[{ WAY 0 }]);", "more(&mut *b, &a[{ WAY 1 }]);", "both(&*b, &a[{ WAY 0 }], &a[1]);", "both(&a[0], &*b, &a[{ WAY 1 }]);", "let mut k = 0; while k < 3 { let mut b = box(k); see(&*b, &a[{ WAY k / 2 }]); k = k + 1; }", "see(&*b, &a[{ let d = box(9); see(&*d, &a[{ WAY 0 }]); 0 }]);", "see(&*b, &a[{ let d = box(9); see(&*d, &a[{ d; 0 }]); WAY 0 }]);"} {
			lend(t, "let mut b = box(1); "+strings.ReplaceAll(body, "WAY", way))
		}
	}
}

// Parts of what a Box holds, Boxes in Boxes, in structs and in arrays.
func TestBorrowedOfPartsThatAreLetGo(t *testing.T) {
	for _, c := range []struct {
		body  string
		print []int
	}{
		{"let mut q = q(); see(&*q.k, &a[{ q.k = box(5); 0 }]); print(*q.k);", []int{3, 3, 5}},
		{"let mut r = q(); see(&*r.k, &a[{ r = q(); 0 }]); print(*r.k);", []int{3, 3, 3}},
		{"let q = q(); see(&*q.k, &a[{ eatQ(q) - 9 }]);", []int{3, 3}},
		{"let mut n = [box(1), box(2)]; see(&*n[1], &a[{ n[1] = box(5); 0 }]); print(*n[1]);", []int{2, 2, 5}},
		{"let mut n = [box(1), box(2)]; let i = read() + 1; see(&*n[i], &a[{ n[i] = box(5); 0 }]); print(*n[i]);", []int{2, 2, 5}},
		{"let n = N { b: [box(1), box(2)] }; see(&*n.b[1], &a[{ n; 0 }]);", []int{2, 2}},
		{"let mut b = Box::new(box(1)); see(&**b, &a[{ *b = box(5); 0 }]); print(**b);", []int{1, 1, 5}},
		{"let mut b = Box::new(box(1)); see(&**b, &a[{ b = Box::new(box(5)); 0 }]); print(**b);", []int{1, 1, 5}},
		{"let b = Box::new(box(1)); see(&**b, &a[{ let c = unbox(b); 0 }]);", []int{1, 1}},
		{"let b = Box::new(box(1)); see(&**b, &a[{ b; 0 }]);", []int{1, 1}},
		{"let b = pointBox(1); seeP(&*b, &a[{ b; 0 }]);", []int{1, 2, 1, 2}},
		{"let mut b = pointBox(1); moreP(&mut *b, &a[{ b = pointBox(3); 0 }]); show(&*b);", []int{2, 2, 4, 7, 3, 2}},
		{"let mut b = pointBox(1); more(&mut b.a, &a[{ b = pointBox(3); 0 }]); show(&*b);", []int{11, 3, 2}},
		{"let b = Box::new([7, 8, 9]); seeL(&*b, &a[{ b; 0 }]); let c = Box::new([7, 8, 9]); see(&c[2], &a[{ c; 0 }]); let d = Box::new([[1, 2, 3], [4, 5, 6]]); seeL(&d[1], &a[{ d; 0 }]);", []int{789, 9, 9, 456}},
		{"let b = Box::new(q()); see(&b.p.a, &a[{ b; 0 }]); let c = Box::new(q()); see(&c.l[2], &a[{ c; 0 }]); let d = Box::new(q()); see(&*d.k, &a[{ d; 0 }]);", []int{1, 1, 6, 6, 3, 3}},
		{"let x = a1(); see(&*x.b.c[1], &a[{ eatA(x); 0 }]); let y = a1(); see(&y.b.w, &a[{ let z = y; 0 }]); let mut z = a1(); see(&*z.b.c[0], &a[{ z.b.c[0] = box(9); z.b.c[1] = box(8); 0 }]); see(&*z.b.c[0], &a[{ z.b.c = [box(7), box(6)]; 0 }]); see(&*z.b.c[1], &a[{ z = a1(); 0 }]); print(*z.b.c[1]);", []int{3, 3, 4, 4, 2, 2, 9, 9, 6, 6, 3}},
		// Where the Box is held by another one then, that is where it is changed.
		{"let mut b = box(1); let mut c = box(2); more(&mut *b, &a[{ c = b; 0 }]); print(*c);", []int{11, 11}},
		{"let mut b = pointBox(1); let mut c = pointBox(2); moreP(&mut *b, &a[{ c = b; 0 }]); show(&*c);", []int{2, 2, 4, 7, 4, 7}},
		{"let mut b = Box::new(q()); let mut c = q(); more(&mut *b.k, &a[{ c = unbox(b); 0 }]); print(*c.k);", []int{13, 13}},
		{"let mut b = box(1); see(&*b, &a[{ *b = 6; 0 }]); more(&mut *b, &a[{ let mut c = box(3); c = box(4); 0 }]); print(*b);", []int{6, 6, 16, 16}},
		{"let mut b = box(1); inner(&mut b, &a); print(*b);", []int{1, 1, 18, 9}},
		{"let mut b = box(1); b = same(b); more(&mut *b, &a[{ b = same(b); 0 }]); print(*b); more(&mut *b, &a[{ b = b; 0 }]); print(*b); let c = box(3); let mut d = c; more(&mut *d, &a[{ let e = c2(); 0 }]); print(*d);", []int{11, 11, 21, 21, 13, 13}},
		{"let mut c = box(3); let mut d = c; more(&mut *d, &a[{ c = box(4); 0 }]); print(*d * 100 + *c);", []int{13, 1304}},
		{"let mut b = Box::new(box(1)); let mut c = box(2); more(&mut **b, &a[{ c = unbox(b); let d = Box::new(box(7)); 0 }]); print(*c);", []int{11, 11}},
		{"let mut b = Box::new(box(1)); let mut c = box(2); more(&mut **b, &a[{ c = replace(&mut *b, box(5)); b = Box::new(box(6)); 0 }]); print(*c * 10 + **b);", []int{11, 116}},
		{"let mut n = [box(1), box(2)]; let mut i = 1; more(&mut *n[i], &a[{ i = 0; n[1] = box(5); 0 }]); print(*n[1] * 10 + i);", []int{12, 50}},
		{"let mut x = [a1(), a1()]; let mut i = 1; more(&mut *x[i].b.c[i], &a[{ i = 0; x[1] = a1(); 0 }]); print(*x[1].b.c[1]);", []int{13, 3}},
		{"let p = given(box(1), point(6, 7), box(2), pointBox(3)); show(&p);", []int{1, 1, 2, 2, 5, 3, 2, 3, 2, 6, 7}},
		{"let b = box(1); let c = box(2); see(&*b, &a[{ eat3(point(1, 2), 3, b, c); 0 }]); let d = box(3); let e = box(4); see(&*e, &a[{ eat3(point(1, 2), 3, d, e); 0 }]);", []int{1, 1, 4, 4}},
		{"let mut b = box(1); let mut c = box(2); alias(&mut *b, &a[{ c = b; 0 }], c);", []int{5}},
		{"let mut d = Box::new(Box::new(Box::new(box(1)))); see(&****d, &a[{ d; 0 }]); let e = Box::new(a1()); see(&*e.b.c[1], &a[{ let f = e; 0 }]);", []int{1, 1, 3, 3}},
		// In Boxes of others, and by two that wait for it.
		{"let r = q(); see(&*r.k, &a[{ let s = Box::new(r); 0 }]);", []int{3, 3}},
		{"let r = q(); see(&*r.k, &a[{ let s = Box::new(Box::new(X::Q(r))); 0 }]);", []int{3, 3}},
		{"let mut b = box(1); more(&mut *b, &a[{ more(&mut *b, &a[{ b; 1 }]); 0 }]);", []int{11, 21}},
		{"let mut b = pointBox(1); more(&mut b.a, &a[{ moreP(&mut *b, &a[{ b = pointBox(5); 1 }]); 0 }]); show(&*b);", []int{2, 2, 4, 7, 14, 5, 2}},
		// Several that wait, and a Box of no words.
		{"let mut b = box(1); let mut c = box(2); both(&*b, &*c, &a[{ b = c; 1 }]); print(*b);", []int{122, 2}},
		{"let b = box(1); let c = box(2); both(&*b, &*c, &a[{ let d = [b, c]; 0 }]);", []int{121}},
		{"let b = pointBox(5); both(&b.a, &b.a, &a[{ b; 0 }]);", []int{551}},
		{"let mut b = box(1); both(&*b, &a[{ b = box(2); 1 }], &a[{ b = box(3); 0 }]); print(*b);", []int{121, 3}},
		{"let b = Box::new(()); unit(&*b, &a[{ b; 0 }]);", []int{1}},
		// It is left in the midst.
		{"let mut i = 0; while i < 70 { i = i + 1; let b = box(i); see(&*b, &a[{ b; if i < 69 { continue; } break; 0 }]); } print(i);", []int{69}},
	} {
		lend(t, c.body, c.print...)
	}
}
