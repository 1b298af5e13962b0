package model

import (
	"strings"
	"testing"

	"ferrule/api"
)

// P10.1, P10.2: what an argument borrows, and an index of a later one lets go, moves away or changes. Borrow takes these programs.

// lenders are functions that are given a borrow of something, and one of an element.
const lenders = ` fn see(x: &i32, y: &i32) { print(*x); } fn set(x: &mut i32, y: &i32) { *x = *x + 10; print(*x); } fn seeBox(x: &Box<i32>, y: &i32) { print(**x); } fn setBox(x: &mut Box<i32>, y: &i32) { print(**x); *x = box(7); print(**x); }
fn swapBox(x: &mut Box<i32>, y: &i32) -> Box<i32> { replace(x, box(7)) } fn openBox(x: &mut Box<i32>, y: &i32) -> i32 { unbox(replace(x, box(7))) } fn seeQ(x: &Q, y: &i32) { print(x.p.a); print(*x.k); print(x.l[2]); } fn setQ(x: &mut Q, y: &i32) { x.p.a = 8; x.k = box(9); x.l = [1, 2, 3]; print(x.p.a); print(*x.k); print(x.l[2]); }
fn seeArray(x: &[i32; 2], y: &i32) { print(x[0] * 10 + x[1]); } fn two(x: &i32, y: &i32, z: &i32) { print(*x); print(*y); } fn within(x: &mut L, y: &i32, b: Box<L>) { *x = L::C(b); } fn without(x: &mut L, y: &i32, b: Box<L>) { *x = L::C(b); *x = L::N; } fn on(x: &Box<i32>, y: &i32) { see(&**x, y); } fn seen(x: &Box<i32>, y: &i32) { print(7); }
fn deep(x: &mut Box<Box<i32>>, y: &i32) -> Box<Box<i32>> { replace(x, Box::new(box(7))) } fn eat(b: Box<i32>) -> i32 { print(*b); 0 } fn eatQ(q: Q) -> i32 { *q.k - 3 } fn beside(x: &mut Q, y: &i32, q: Q) { x.p.a = 8; print(q.p.a); print(x.p.a); *x.k = 9; print(*q.k); }
`

// lent is a program whose main lends.
func lent(body string) string {
	return strings.Replace(inMain("let a = [1, 2]; "+body), items, lenders+items, 1)
}

// A Box that is let go moves nothing away from where it held its value.
func TestBorrowedOfBoxesThatAreLetGo(t *testing.T) {
	for _, c := range []struct {
		body  string
		print []int
	}{
		// It is overwritten, moved away and let go, or passed on, by whatever way leads there.
		{"let mut b = box(1); see(&*b, &a[{ b = box(5); 0 }]); print(*b);", []int{1, 5}},
		{"let b = box(1); see(&*b, &a[{ let c = b; 0 }]);", []int{1}},
		{"let b = box(1); see(&*b, &a[{ b; 0 }]);", []int{1}},
		{"let b = box(1); see(&*b, &a[{ drop(b); 0 }]);", []int{1}},
		{"let b = box(1); see(&*b, &a[eat(b)]);", []int{1, 1}},
		{"let b = box(1); see(&*b, &a[{ unbox(b) - 1 }]);", []int{1}},
		{"let b = box(1); see(&*b, &a[match E::B(b, 0) { E::B(_, n) => n, _ => 1 }]);", []int{1}},
		{"let b = box(1); see(&*b, &a[match E::B(b, 0) { _ => 1 }]);", []int{1}},
		{"let b = box(1); see(&*b, &a[{ let c = [b, box(2)]; let d = Q { k: box(3), p: P { a: 1, b: 1 }, l: [1; 3] }; 0 }]);", []int{1}},
		{"let mut b = box(1); see(&*b, &a[{ replace(&mut b, box(5)); 0 }]); print(*b);", []int{1, 5}},
		{"let mut b = box(1); see(&*b, &a[{ let mut i = 0; while i < 200 { b = box(i); i = i + 1; } 0 }]); print(*b);", []int{1, 199}},
		{"let mut b = box(1); see(&*b, &a[if yes() { b = box(5); 0 } else { 1 }]); print(*b);", []int{1, 5}},
		// In fields, elements and Boxes.
		{"let mut q = fresh(); see(&*q.k, &a[{ q.k = box(5); 0 }]); print(*q.k);", []int{3, 5}},
		{"let mut q = fresh(); see(&*q.k, &a[{ q = fresh(); 0 }]); print(*q.k);", []int{3, 3}},
		{"let q = q(); see(&*q.k, &a[eatQ(q)]);", []int{3}},
		{"let mut n = [box(1), box(2)]; see(&*n[1], &a[{ n[1] = box(5); 0 }]); print(*n[1]);", []int{2, 5}},
		{"let n = N { b: [box(1), box(2)] }; see(&*n.b[1], &a[{ n; 0 }]);", []int{2}},
		{"let mut b = Box::new(box(1)); see(&**b, &a[{ *b = box(5); 0 }]); print(**b);", []int{1, 5}},
		{"let mut b = Box::new(box(1)); see(&**b, &a[{ b = Box::new(box(5)); 0 }]); print(**b);", []int{1, 5}},
		{"let b = Box::new(box(1)); see(&**b, &a[{ let c = unbox(b); 0 }]);", []int{1}},
		{"let mut b = Box::new(box(1)); seeBox(&*b, &a[{ b = Box::new(box(5)); 0 }]); on(&*b, &a[{ b; 0 }]);", []int{1, 5}},
		{"let b = Box::new(box(1)); seeBox(&*b, &a[{ unbox(b); 0 }]);", []int{1}},
		// What a Box of a struct or an array held, and parts of it.
		{"let b = Box::new(q()); seeQ(&*b, &a[{ b; 0 }]);", []int{1, 3, 6}},
		{"let b = Box::new(q()); seeQ(&*b, &a[{ unbox(b); 0 }]);", []int{1, 3, 6}},
		{"let b = Box::new(q()); see(&b.p.a, &a[{ b; 0 }]);", []int{1}},
		{"let b = Box::new(q()); see(&b.l[2], &a[{ b; 0 }]);", []int{6}},
		{"let b = Box::new([3, 4]); seeArray(&*b, &a[{ b; 0 }]);", []int{34}},
		{"let mut b = Box::new([3, 4]); two(&b[0], &a[{ b = Box::new([5, 6]); 0 }], &a[{ b; 1 }]);", []int{3, 1}},
		// It can be changed there.
		{"let mut b = box(1); set(&mut *b, &a[{ b; 0 }]);", []int{11}},
		{"let mut b = box(1); set(&mut *b, &a[{ b = box(5); 0 }]); print(*b);", []int{11, 5}},
		{"let mut b = Box::new(q()); setQ(&mut *b, &a[{ b = Box::new(q()); 0 }]); print(b.p.a); print(*b.k);", []int{8, 9, 3, 1, 3}},
		{"let mut b = Box::new(box(1)); setBox(&mut *b, &a[{ b = Box::new(box(5)); 0 }]); print(**b);", []int{1, 7, 5}},
		{"let mut b = Box::new(box(1)); print(openBox(&mut *b, &a[{ b = Box::new(box(5)); 0 }])); print(**b);", []int{1, 5}},
		{"let mut b = Box::new(box(1)); let c = swapBox(&mut *b, &a[{ b = Box::new(box(5)); 0 }]); print(*c); print(**b);", []int{1, 5}},
		// What was in a Box that is unboxed is another one than what was borrowed there.
		{"let mut b = Box::new(q()); let mut c = fresh(); setQ(&mut *b, &a[{ c = unbox(b); 0 }]); print(c.p.a); print(*c.k); print(c.l[2]);", []int{8, 9, 3, 1, 3, 6}},
		{"let mut b = Box::new(q()); let mut c = fresh(); set(&mut *b.k, &a[{ c = unbox(b); 0 }]); print(*c.k);", []int{13, 13}},
		{"let mut b = Box::new(q()); let mut c = Box::new(q()); beside(&mut *b, &a[{ c = b; 0 }], unbox(c));", []int{1, 8, 9}},
		// Where the Box is held by another one then, that is where it is changed.
		{"let mut b = box(1); let mut c = box(2); set(&mut *b, &a[{ c = b; 0 }]); print(*c);", []int{11, 11}},
		{"let mut b = Box::new(q()); let mut c = Box::new(q()); setQ(&mut *b, &a[{ c = b; 0 }]); print(c.p.a); print(*c.k);", []int{8, 9, 3, 8, 9}},
	} {
		wantRun(t, lent(c.body), nil, api.OutExit, 0, c.print...)
	}
}

// How many Boxes of class 0 are live behind a body: each that was let go is one less, and once, whoever lets it go again.
func TestLetGoOnce(t *testing.T) {
	for _, c := range []struct {
		body  string
		live  int
		print []int
	}{
		{"let mut b = box(1); see(&*b, &a[{ b = box(5); 0 }]);", 1, []int{1}},
		{"let b = box(1); see(&*b, &a[{ let c = b; 0 }]);", 0, []int{1}},
		{"let b = box(1); see(&*b, &a[unbox(b) - 1]);", 0, []int{1}},
		{"let b = Box::new(box(1)); seeBox(&*b, &a[{ b; 0 }]);", 0, []int{1}},
		{"let b = Box::new(box(1)); seeBox(&*b, &a[{ unbox(b); 0 }]);", 0, []int{1}},
		{"let mut b = Box::new(box(1)); see(&**b, &a[{ *b = box(2); *b = box(3); 0 }]);", 2, []int{1}},
		{"let q = q(); see(&*q.k, &a[{ q; 0 }]);", 0, []int{3}},
		// What is put where nobody holds it any more stays; what is overwritten there was let go before.
		{"let mut b = Box::new(box(1)); setBox(&mut *b, &a[{ b; 0 }]);", 1, []int{1, 7}},
		{"let mut b = Box::new(box(1)); setBox(&mut *b, &a[{ b = Box::new(box(5)); 0 }]);", 3, []int{1, 7}},
		{"let mut b = Box::new(box(1)); setBox(&mut *b, &a[{ let c = unbox(b); 0 }]);", 1, []int{1, 7}},
		{"let mut b = Box::new(q()); { let mut c = fresh(); setQ(&mut *b, &a[{ c = unbox(b); 0 }]); }", 1, []int{8, 9, 3}},
		// Those that were let go, and come back out of there.
		{"let mut b = Box::new(box(1)); let c = swapBox(&mut *b, &a[{ b; 0 }]);", 1, nil},
		{"let mut b = Box::new(box(1)); { let c = swapBox(&mut *b, &a[{ b; 0 }]); }", 1, nil},
		{"let mut b = Box::new(box(1)); drop(swapBox(&mut *b, &a[{ b; 0 }]));", 1, nil},
		{"let mut b = Box::new(box(1)); let c = Box::new(swapBox(&mut *b, &a[{ b; 0 }]));", 2, nil},
		{"let mut b = Box::new(box(1)); { let c = Box::new(swapBox(&mut *b, &a[{ b; 0 }])); }", 1, nil},
		{"let mut b = Box::new(box(1)); print(openBox(&mut *b, &a[{ b; 0 }]));", 1, []int{1}},
		{"let mut b = Box::new(box(1)); let mut c = swapBox(&mut *b, &a[{ b; 0 }]); c = box(2);", 2, nil},
		// One that is live in one that was let go goes with it.
		{"let mut b = Box::new(Box::new(box(1))); let mut c = deep(&mut *b, &a[{ b; 0 }]); *c = box(4);", 3, nil},
		{"let mut b = Box::new(Box::new(box(1))); { let mut c = deep(&mut *b, &a[{ b; 0 }]); *c = box(4); }", 2, nil},
		// Two that tell of one Box.
		{"let mut b = Box::new(box(1)); let mut c = box(2); setBox(&mut *b, &a[{ c = unbox(b); 0 }]); print(*c);", 1, []int{1, 7, 1}},
		{"let mut b = Box::new(box(1)); { let mut c = box(2); setBox(&mut *b, &a[{ c = unbox(b); 0 }]); print(*c); }", 1, []int{1, 7, 1}},
		// A Box within itself.
		{"let mut b = Box::new(L::N); let mut c = Box::new(L::N); within(&mut *b, &a[{ c = b; 0 }], c);", 1, nil},
		{"let mut b = Box::new(L::N); let mut c = Box::new(L::N); without(&mut *b, &a[{ c = b; 0 }], c);", 0, nil},
	} {
		wantFilled(t, lent(c.body+fill), c.live, c.print...)
	}
}

// Where the variable itself is moved away that is borrowed, its place holds nothing, and neither do its parts.
func TestBorrowedOfVariablesThatAreMoved(t *testing.T) {
	for _, body := range []string{
		"let b = box(1); seeBox(&b, &a[{ let c = b; 0 }]);", "let b = box(1); seeBox(&b, &a[{ unbox(b); 0 }]);", "let mut b = box(1); let mut c = box(2); seeBox(&b, &a[{ c = b; 0 }]);", "let q = q(); seeQ(&q, &a[{ q; 0 }]);", "let q = q(); see(&q.p.a, &a[{ q; 0 }]);", "let q = q(); seeBox(&q.k, &a[{ q; 0 }]);", "let n = [box(1), box(2)]; seeBox(&n[1], &a[{ n; 0 }]);", "let b = box(1); on(&b, &a[{ b; 0 }]);",
	} {
		wantRun(t, lent(body), nil, api.OutStuck, 0)
	}
	// It is no fault if it is not used, or holds a value again.
	wantRun(t, lent("let b = box(1); seen(&b, &a[{ b; 0 }]); let mut c = box(2); seeBox(&c, &a[{ c = box(5); 0 }]); seeBox(&c, &a[{ c; c = box(6); 0 }]); let mut q = fresh(); see(&q.p.a, &a[{ q; q = fresh(); 0 }]);"), nil, api.OutExit, 0, 7, 5, 6, 1)
}

// A list of Boxes that were let go, of which each turn makes it one longer, has an end.
func TestManyThatWereLetGo(t *testing.T) {
	text := `enum L { N, C(Box<L>) } fn back(x: &mut L, y: &i32) -> L { replace(x, L::N) }
fn more(l: L) -> L { let a = [1]; let mut b = Box::new(L::C(Box::new(l))); back(&mut *b, &a[{ b; 0 }]) }
fn main() { let keep = Box::new(1); let mut l = L::N; let mut i = 0; while i < 2000 { l = more(l); i = i + 1; } print(i); let mut n = 0; loop { match l { L::N => { break; }, L::C(b) => { n = n + 1; l = unbox(b); } } } print(n); let mut full = L::N; loop { full = L::C(Box::new(full)); print(*keep); } }`
	print := []int{2000, 2000}
	for range 63 {
		print = append(print, 1)
	}
	wantRun(t, text, nil, api.OutMemory, 0, print...)
}
