package build_test

import (
	"strconv"
	"strings"
	"testing"

	"ferrule/api"
)

// P13.2: what is let go, and when. How many Boxes are live is asked by filling the heap.

// times writes something so many times, with commas between.
func times(n int, text string) string { return strings.TrimSuffix(strings.Repeat(text+", ", n), ", ") }

// As many Boxes of a class can be live as there are blocks, and not one more.
func TestRoom(t *testing.T) {
	for _, c := range []struct{ words, blocks int }{{0, 64}, {1, 64}, {4, 64}, {5, 32}, {16, 32}, {17, 16}, {64, 16}, {65, 8}, {127, 8}, {128, 8}} {
		box := "Box::new([0; " + strconv.Itoa(c.words) + "])"
		all := "let a = [" + times(c.blocks, box) + "]; print(1); "
		less := "let a = [" + times(c.blocks-1, box) + "]; print(1); "
		wantPrint(t, all, 1)
		wantRun(t, inMain(all+box+"; print(2);"), nil, api.OutMemory, 0, 1)
		wantRun(t, inMain("["+times(c.blocks+1, box)+"]; print(1);"), nil, api.OutMemory, 0)
		// One that is let go between makes room for one.
		wantPrint(t, less+box+"; "+box+"; let b = "+box+"; b; let c = "+box+"; print(2);", 1, 2)
		wantRun(t, inMain(less+"let b = "+box+"; { b; } let c = "+box+"; print(2); let d = "+box+"; print(3);"), nil, api.OutMemory, 0, 1, 2)
		wantPrint(t, less+"let mut b = "+box+"; let v = unbox(b); b = Box::new(v); print(2);", 1, 2)
		wantPrint(t, less+"let mut i = 0; while i < 300 { let b = "+box+"; i = i + 1; } print(2);", 1, 2)
	}
	for _, c := range []struct {
		value  string
		blocks int
	}{{"()", 64}, {"true", 64}, {"U {}", 64}, {"P { a: 1, b: 2 }", 64}, {"[1; 4]", 64}, {"E::N", 64}, {"X::N", 32}, {"q()", 32}, {"[q(), q(), q()]", 16}} {
		text := "let a = [" + times(min(c.blocks, 8), "Box::new("+c.value+")") + "]; print(1);"
		wantPrint(t, text, 1)
	}
}

func TestLetGoAtTheEnds(t *testing.T) {
	for _, c := range []struct {
		body  string
		live  int
		print []int
	}{
		{"", 0, nil}, {"let b = box(1);", 1, nil}, {"{ let b = box(1); }", 0, nil}, {"{ let b = box(1); let c = box(2); }", 0, nil}, {"box(1);", 0, nil}, {"let b = box(1); b;", 0, nil}, {"let b = box(1); drop(b);", 0, nil}, {"let b = same(box(1));", 1, nil}, {"let b = box(1); let c = same(b);", 1, nil}, {"let b = box(1); { let c = b; }", 0, nil}, {"let b = box(1); let c = { b };", 1, nil}, {"let b = { let c = box(1); c };", 1, nil}, {"unbox(box(1));", 0, nil}, {"let b = Box::new(box(1));", 2, nil}, {"{ let b = Box::new(box(1)); }", 0, nil}, {"let b = unbox(Box::new(box(1)));", 1, nil}, {"unbox(Box::new(box(1)));", 0, nil}, {"let b = box(1); *b;", 1, nil},
		// In structs, arrays and enums.
		{"let x = q();", 1, nil}, {"q();", 0, nil}, {"let x = q(); x;", 0, nil}, {"let x = q(); let y = x;", 1, nil}, {"let x = q(); eatQ(x);", 0, nil}, {"let n = N { b: [box(1), box(2)] };", 2, nil}, {"N { b: [box(1), box(2)] };", 0, nil}, {"{ let n = [N { b: [box(1), box(2)] }, N { b: [box(3), box(4)] }]; }", 0, nil}, {"let a = [box(1), box(2), box(3)];", 3, nil}, {"let a = [box(1), box(2), box(3)]; a;", 0, nil}, {"let e = E::C(box(1), box(2));", 2, nil}, {"E::C(box(1), box(2));", 0, nil}, {"let e = [E::N, E::A(1), E::B(box(1), 2), E::C(box(1), box(2))]; e;", 0, nil}, {"let e = [E::N, E::A(1), E::B(box(1), 2), E::C(box(1), box(2))];", 3, nil}, {"let o = OB { b: box(1) };", 1, nil}, {"let o = [OB { b: box(1) }]; o;", 0, nil}, {"let l = L::C(Box::new(L::C(Box::new(L::C(Box::new(L::N))))));", 3, nil}, {"{ let l = L::C(Box::new(L::C(Box::new(L::C(Box::new(L::N)))))); }", 0, nil}, {"let x = Box::new(OB { b: box(1) }); x;", 0, nil}, {"let a: [Box<i32>; 0] = []; let b = a;", 0, nil},
		// Overwritten, replaced.
		{"let mut b = box(1); b = box(2);", 1, nil}, {"let mut b = box(1); b = box(2); b = box(3); print(*b);", 1, []int{3}}, {"let mut b = box(1); drop(b); b = box(2);", 1, nil}, {"let mut b = box(1); b = same(b);", 1, nil}, {"let mut b = box(1); b = b; print(*b);", 1, []int{1}}, {"let mut x = q(); x.k = box(2); print(*x.k);", 1, []int{2}}, {"let mut x = q(); x = q();", 1, nil}, {"let mut x = q(); x; x = q();", 1, nil}, {"let mut a = [box(1), box(2)]; a[1] = box(3); print(*a[1]);", 2, []int{3}}, {"let mut a = [box(1), box(2)]; a[zero()] = box(3); a = [box(4), box(5)];", 2, nil}, {"let mut b = Box::new(box(1)); *b = box(2); print(**b);", 2, []int{2}}, {"let mut e = E::C(box(1), box(2)); e = E::B(box(3), 1);", 1, nil}, {"let mut e = E::C(box(1), box(2)); e = E::N;", 0, nil}, {"let mut b = box(1); let c = replace(&mut b, box(2)); print(*c * 10 + *b);", 2, []int{12}}, {"let mut b = box(1); replace(&mut b, box(2));", 1, nil}, {"let mut x = q(); replace(&mut x.k, box(2)); replace(&mut x, q());", 1, nil}, {"let mut l = L::N; l = L::C(Box::new(l)); l = L::C(Box::new(l));", 2, nil}, {"let mut l = L::C(Box::new(L::N)); l = match l { L::N => L::N, L::C(b) => unbox(b) };", 0, nil}, {"let mut b = Box::new(q()); *b = q(); b.k = box(1);", 1, nil}, {"let mut b = Box::new([box(1), box(2)]); b[0] = box(3);", 3, nil}, {"let mut b = Box::new(1); *b = 2; replace(&mut *b, 3);", 1, nil},
		// On some ways.
		{"let b = box(1); if yes() { drop(b); }", 0, nil}, {"let b = box(1); if no() { drop(b); }", 1, nil}, {"{ let b = box(1); if yes() { drop(b); } }", 0, nil}, {"{ let b = box(1); if no() { drop(b); } }", 0, nil}, {"{ let b = box(1); if no() { drop(b); } else { b; } }", 0, nil}, {"let mut b = box(1); if yes() { drop(b); } b = box(2);", 1, nil}, {"let mut b = box(1); if no() { drop(b); } b = box(2);", 1, nil}, {"{ let b = box(1); yes() && { drop(b); true }; }", 0, nil}, {"{ let b = box(1); no() && { drop(b); true }; }", 0, nil}, {"{ let x = q(); match 1 { 1 => { x; }, 2 => { eatQ(x); }, _ => {} } }", 0, nil}, {"{ let x = q(); match 3 { 1 => { x; }, 2 => { eatQ(x); }, _ => {} } }", 0, nil}, {"let mut b = box(1); let mut i = 0; while i < 5 { if i == 3 { drop(b); b = box(i); } i = i + 1; } print(*b);", 1, []int{3}}, {"let mut b = box(1); let mut i = 0; while i < 5 { if i % 2 == 0 { drop(b); } b = box(i); i = i + 1; } print(*b);", 1, []int{4}},
		// Loops, and what leaves them.
		{"let mut i = 0; while i < 100 { let b = box(i); i = i + 1; }", 0, nil}, {"let mut i = 0; while i < 100 { let b = box(i); i = i + 1; if i == 50 { break; } let c = box(i); }", 0, nil}, {"let mut i = 0; while i < 100 { let b = box(i); i = i + 1; if i % 2 == 0 { continue; } let c = box(i); }", 0, nil}, {"let mut i = 0; loop { let b = box(i); i = i + 1; { let c = box(i); if i == 100 { break; } } }", 0, nil}, {"let a = box(1); let mut i = 0; while i < 100 { let b = box(i); let mut j = 0; loop { let c = box(j); j = j + 1; if j == 3 { break; } } i = i + 1; }", 1, nil}, {"let mut i = 0; while { let b = box(i); *b < 100 } { i = i + 1; }", 0, nil}, {"let mut i = 0; while { let b = box(i); if *b == 100 { break; } true } { i = i + 1; }", 0, nil}, {"let mut i = 0; while i < 100 { let b = box(i); drop(b); i = i + 1; }", 0, nil}, {"let mut i = 0; while i < 100 { match E::C(box(i), box(i)) { E::C(a, _) => { i = i + 1; if i % 3 == 0 { continue; } let c = a; }, _ => {} } }", 0, nil}, {"let mut i = 0; loop { match E::C(box(i), box(i)) { E::C(a, c) => { i = i + 1; if i == 70 { break; } drop(a); }, _ => {} } }", 0, nil}, {"let mut b = box(0); let mut i = 0; while i < 100 { b = box(i); i = i + 1; }", 1, nil},
		// Matches.
		{"match E::C(box(1), box(2)) { E::C(a, b) => {}, _ => {} }", 0, nil}, {"match E::C(box(1), box(2)) { E::C(_, b) => {}, _ => {} }", 0, nil}, {"match E::C(box(1), box(2)) { _ => {} }", 0, nil}, {"let a = match E::C(box(1), box(2)) { E::C(a, b) => a, _ => box(3) };", 1, nil}, {"let e = E::C(box(1), box(2)); match e { E::C(a, b) => { print(*a + *b); }, _ => {} }", 0, []int{3}}, {"let e = E::C(box(1), box(2)); match e { E::N => {}, _ => {} }", 0, nil}, {"let e = E::C(box(1), box(2)); let b = match e { E::C(_, b) => b, _ => box(1) }; print(*b);", 1, []int{2}}, {"match X::Q(q()) { X::Q(q) => { print(*q.k); }, _ => {} }", 0, []int{3}}, {"match X::Q(q()) { X::Q(_) => {}, _ => {} }", 0, nil}, {"let k = match X::Q(q()) { X::Q(q) => { let y = q; y }, _ => q() };", 1, nil}, {"match E::C(box(1), box(2)) { E::C(_, _) => { let mut full = 0; while full < 100 { box(full); full = full + 1; } }, _ => {} }", 0, nil},
		// Made for a tree that is left: nobody lets it go.
		{"loop { two2(box(1), { break; }); }", 1, nil}, {"loop { [box(1), { break; }]; }", 1, nil}, {"loop { N { b: [box(1), { break; }] }; }", 1, nil}, {"loop { E::C(box(1), { break; }); }", 1, nil}, {"let b = box(1); loop { two2(b, { break; }); }", 1, nil}, {"let mut x = box(1); loop { x = { let b = box(2); break; }; }", 1, nil}, {"loop { Box::new([box(1), { break; }]); }", 1, nil}, {"let mut a = [box(1), box(2)]; loop { a[{ break; 0 }] = box(3); }", 3, nil}, {"let mut b = box(1); loop { replace(&mut b, { break; }); }", 1, nil}, {"loop { match E::C(box(1), { break; }) { _ => {} } }", 1, nil},
		// Params and answers.
		{"let x = eatQ(q());", 0, nil}, {"take(box(1), true);", 0, nil}, {"take(box(1), false);", 0, nil}, {"let b = give(box(1), box(2), true); print(*b);", 1, []int{1}}, {"let b = give(box(1), box(2), false); print(*b);", 1, []int{2}}, {"give(box(1), box(2), true);", 0, nil}, {"let mut i = 0; while i < 100 { let b = early(i); i = i + 1; }", 0, nil}, {"overwritten(box(1));", 0, nil}, {"let mut b = box(1); through(&mut b); print(*b);", 1, []int{9}}, {"let mut x = q(); throughQ(&mut x); print(*x.k);", 1, []int{8}}, {"let mut x = q(); out(&mut x); showQ(&x);", 1, []int{7, 7, 3, 123}},
	} {
		for range 64 - c.live {
			c.print = append(c.print, 1000)
		}
		const functions = " fn two2(a: Box<i32>, b: Box<i32>) {} fn take(b: Box<i32>, yes: bool) { if yes { drop(b); } } fn give(a: Box<i32>, b: Box<i32>, first: bool) -> Box<i32> { if first { return a; } b } fn early(n: i32) -> E { let a = box(n); let b = box(n); if n % 3 == 0 { return E::N; } let c = box(n); { let d = box(n); if n % 3 == 1 { return E::B(d, 1); } } E::C(a, c) } fn overwritten(mut b: Box<i32>) { b = box(2); let c = box(3); b = c; } fn through(b: &mut Box<i32>) { *b = box(5); **b = 6; replace(b, box(9)); } fn throughQ(x: &mut Q) { x.k = box(4); *x = q(); let k = replace(&mut x.k, box(8)); } fn out(x: &mut Q) { let k = box(3); replace(x, Q { p: point(7, 7), k: k, l: [1, 2, 3] }); }"
		wantRun(t, inMain(c.body+fill)+functions, nil, api.OutMemory, 0, c.print...)
	}
}

// A value is let go ahead of the body of the arm, and where it is overwritten behind the new one: there is room for just that.
func TestWhenLetGo(t *testing.T) {
	full := func(n int) string { return "let a = [" + times(n, "box(1)") + "]; print(1); " }
	wantPrint(t, full(62)+"match E::C(box(1), box(2)) { E::C(_, c) => { let d = box(3); print(2); }, _ => {} }", 1, 2)
	wantRun(t, inMain(full(62)+"match E::C(box(1), box(2)) { E::C(b, c) => { let d = box(3); print(2); }, _ => {} }"), nil, api.OutMemory, 0, 1)
	wantPrint(t, full(62)+"match E::C(box(1), box(2)) { _ => { let d = [box(3), box(4)]; print(2); } }", 1, 2)
	wantPrint(t, full(62)+"let mut b = box(1); b = box(2); print(2); b = box(3); print(3); drop(b); b = box(4); let c = box(5); print(4);", 1, 2, 3, 4)
	wantRun(t, inMain(full(63)+"let mut b = box(1); print(2); b = box(2); print(3);"), nil, api.OutMemory, 0, 1, 2)
	wantRun(t, inMain(full(62)+"let mut b = box(1); let c = replace(&mut b, box(2)); print(2); let d = box(3); print(3);"), nil, api.OutMemory, 0, 1, 2)
	wantPrint(t, full(62)+"let c = box({ let b = box(1); let c = box(2); *b + *c }); print(*c); let d = box(unbox(box(3))); print(*d);", 1, 3, 3)
	wantRun(t, inMain(full(62)+"let b = Box::new(box(1)); print(2); let c = unbox(b); let d = box(1); print(3); let e = box(2); print(4);"), nil, api.OutMemory, 0, 1, 2, 3)
	wantPrint(t, full(61)+"{ let b = box(1); let c = box(2); let d = same(b); print(*d); } { let b = [box(1), box(2), box(3)]; } let e = [box(1), box(2), box(3)]; print(2);", 1, 1, 2)
	wantPrint(t, full(63)+"let mut i = 0; while i < 70 { let e = E::B(box(i), i); i = match e { E::B(b, n) => { if n > 66 { break; } *b + 1 }, _ => { return; } }; } let z = box(1); print(i);", 1, 67)
}
