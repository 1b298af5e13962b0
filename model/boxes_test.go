package model

import (
	"strconv"
	"strings"
	"testing"

	"ferrule/api"
)

// P10.1: Box::new, unbox, and what is let go, and when.

// times writes something so many times, with commas between.
func times(n int, text string) string { return strings.TrimSuffix(strings.Repeat(text+", ", n), ", ") }

// As many Boxes of a class can be live as there are blocks, and not one more; which class it is is told by the words of what is held.
func TestRoom(t *testing.T) {
	for _, c := range []struct{ words, blocks int }{{0, 64}, {1, 64}, {4, 64}, {5, 32}, {16, 32}, {17, 16}, {64, 16}, {65, 8}, {127, 8}, {128, 8}} {
		box := "Box::new([0; " + strconv.Itoa(c.words) + "])"
		all := "let a = [" + times(c.blocks, box) + "]; print(1); "
		less := "let a = [" + times(c.blocks-1, box) + "]; print(1); "
		wantPrint(t, all, 1)
		wantRun(t, inMain(all+box+"; print(2);"), nil, api.OutMemory, 0, 1)
		wantRun(t, inMain("["+times(c.blocks+1, box)+"]; print(1);"), nil, api.OutMemory, 0)
		// One that is let go between makes room for one.
		wantPrint(t, less+box+"; "+box+"; let b = "+box+"; b; let c = "+box+"; print(2);", 1, 2)
		wantRun(t, inMain(less+"let b = "+box+"; { b; } let c = "+box+"; print(2); let d = "+box+"; print(3);"), nil, api.OutMemory, 0, 1, 2)
		wantPrint(t, less+"let mut b = "+box+"; let v = unbox(b); b = Box::new(v); print(2);", 1, 2)
		// The other classes have room still.
		for _, other := range []int{1, 5, 17, 65} {
			text := all + "let o = Box::new([0; " + strconv.Itoa(other) + "]); print(2);"
			if sameClass(c.words, other) {
				wantRun(t, inMain(text), nil, api.OutMemory, 0, 1)
			} else {
				wantPrint(t, text, 1, 2)
			}
		}
	}
	for name, blocks := range map[string]int{"L": 64, "M1": 32, "M2": 16, "M3": 8} {
		array := map[string]string{"L": "", "M1": "[0; 3], ", "M2": "[0; 15], ", "M3": "[0; 63], "}[name]
		var print []int
		for range blocks {
			print = append(print, 1)
		}
		wantRun(t, inMain("let mut l = "+name+"::N; loop { l = "+name+"::C("+array+"Box::new(l)); print(1); }"), nil, api.OutMemory, 0, print...)
	}
}

func sameClass(a, b int) bool {
	class := func(words int) int {
		switch {
		case words <= 4:
			return 0
		case words <= 16:
			return 1
		case words <= 64:
			return 2
		}
		return 3
	}
	return class(a) == class(b)
}

// A type that holds a Box has one word of it, whatever is in that.
func TestClassesOfTypes(t *testing.T) {
	for _, c := range []struct {
		value  string
		blocks int
	}{{"()", 64}, {"true", 64}, {"U {}", 64}, {"P { a: 1, b: 2 }", 64}, {"[1; 4]", 64}, {"Box::new([0; 100])", 8}, {"E::N", 64}, {"L::N", 64}, {"M1::N", 32}, {"M2::N", 16}, {"M3::N", 8}, {"[E::N, E::N]", 32}} {
		box := "Box::new(" + c.value + ")"
		wantPrint(t, "let a = ["+times(c.blocks, box)+"]; print(1);", 1)
		wantRun(t, inMain("let a = ["+times(c.blocks, box)+"]; print(1); let b = "+box+";"), nil, api.OutMemory, 0, 1)
	}
}

// How many Boxes of class 0 are live behind a body.
func TestLetGo(t *testing.T) {
	for _, c := range []struct {
		body string
		live int
	}{
		// Statements, lets, blocks.
		{"", 0}, {"let b = box(1);", 1}, {"box(1);", 0}, {"{ let b = box(1); }", 0}, {"{ let b = box(1); let c = box(2); { let d = box(3); } }", 0}, {"let b = box(1); b;", 0}, {"let b = box(1); { b; }", 0}, {"let b = box(1); let c = b;", 1}, {"let b = box(1); { let c = b; }", 0}, {"let b = box(1); let b = box(2); let b = box(3);", 3}, {"let _ = box(1);", 1},
		{"let b = { let c = box(1); c };", 1}, {"let b = { let c = box(1); let d = box(2); c };", 1}, {"let b = { let c = box(1); box(2) };", 1}, {"{ box(1) };", 0}, {"let x = { let b = box(1); *b };", 0}, {"let b = box(1); if yes() { b; }", 0}, {"let b = box(1); if no() { b; }", 1}, {"if yes() { box(1) } else { box(2) };", 0}, {"let b = if no() { box(1) } else { box(2) };", 1},
		// Boxes within others.
		{"let b = Box::new(box(1));", 2}, {"let b = Box::new(box(1)); b;", 0}, {"Box::new(Box::new(box(1)));", 0}, {"let q = q();", 1}, {"q();", 0}, {"let n = N { b: [box(1), box(2)] };", 2}, {"N { b: [box(1), box(2)] };", 0}, {"let a = [box(1), box(2), box(3)];", 3}, {"{ let a = [box(1), box(2), box(3)]; }", 0}, {"let e = E::C(box(1), box(2));", 2}, {"E::C(box(1), box(2));", 0}, {"let e = E::B(box(1), 2); e;", 0}, {"let b = Box::new(q());", 1}, {"Box::new(q());", 0}, {"let b = Box::new(N { b: [box(1), box(2)] });", 3}, {"Box::new([E::B(Box::new(1), 2), E::C(box(1), box(2))]);", 0}, {"let a = [[box(1), box(2)], [box(3), box(4)]];", 4}, {"L::C(Box::new(L::C(Box::new(L::C(Box::new(L::N))))));", 0}, {"let l = L::C(Box::new(L::C(Box::new(L::N))));", 2},
		// Box::new, unbox, replace.
		{"let b = Box::new(box(1)); let c = unbox(b);", 1}, {"let b = Box::new(box(1)); unbox(b);", 0}, {"let b = Box::new(box(1)); unbox(unbox(b));", 0}, {"let x = unbox(box(1));", 0}, {"let q = unbox(Box::new(q()));", 1}, {"let mut b = box(1); replace(&mut b, box(2));", 1}, {"let mut b = box(1); let c = replace(&mut b, box(2));", 2}, {"let mut b = box(1); b = replace(&mut b, box(2));", 1}, {"let mut b = box(1); b = Box::new(unbox(b));", 1}, {"let mut b = Box::new(box(1)); b = Box::new(unbox(b)); *b = Box::new(5);", 2}, {"let mut l = L::N; l = L::C(Box::new(replace(&mut l, L::N)));", 1},
		// Assignments.
		{"let mut b = box(1); b = box(2);", 1}, {"let mut b = box(1); b; b = box(2);", 1}, {"let mut b = box(1); let c = b; b = box(2);", 2}, {"let mut b = Box::new(box(1)); *b = box(2);", 2}, {"let mut b = Box::new(box(1)); b = Box::new(box(2));", 2}, {"let mut q = q(); q.k = box(2);", 1}, {"let mut q = fresh(); q = fresh();", 1}, {"let mut q = fresh(); q.p = P { a: 1, b: 1 }; q.l = [1, 2, 3];", 1}, {"let mut a = [box(1), box(2)]; a[0] = box(3); a[1] = box(4);", 2}, {"let mut a = [box(1), box(2)]; a = [box(3), box(4)];", 2}, {"let mut e = E::C(box(1), box(2)); e = E::N;", 0}, {"let mut e = E::N; e = E::C(box(1), box(2)); e = E::B(box(3), 4);", 1}, {"let mut n = N { b: [box(1), box(2)] }; n.b[1] = box(3); n.b = [box(4), box(5)];", 2}, {"let mut b = box(1); if yes() { b; } b = box(2);", 1}, {"let mut b = box(1); if no() { b; } b = box(2);", 1}, {"let mut b = box(1); { b = box(2); }", 1},
		// Calls.
		{"drop(box(1));", 0}, {"let b = box(1); drop(b);", 0}, {"same(box(1));", 0}, {"let b = same(same(box(1)));", 1}, {"let b = box(1); look(&b); look(&b);", 1}, {"let b = Box::new(box(1)); look(&*b);", 2}, {"drop(same(same(box(1))));", 0},
		// Matches.
		{"match E::C(box(1), box(2)) { E::C(b, c) => {}, _ => {} }", 0}, {"match E::C(box(1), box(2)) { E::C(_, c) => {}, _ => {} }", 0}, {"match E::C(box(1), box(2)) { E::N => {}, _ => {} }", 0}, {"let e = E::C(box(1), box(2)); match e { E::C(b, _) => { b; }, _ => {} }", 0}, {"let b = match E::C(box(1), box(2)) { E::C(b, c) => b, _ => box(3) };", 1}, {"let b = match E::N { E::C(b, c) => b, _ => box(3) };", 1}, {"let e = E::C(box(1), box(2)); if no() { match e { _ => {} } }", 2}, {"match L::C(Box::new(L::C(Box::new(L::N)))) { L::C(l) => { match unbox(l) { L::C(m) => {}, L::N => {} } }, L::N => {} }", 0},
	} {
		wantLive(t, c.body, c.live)
	}
}

// How many Boxes are live in the midst of a body: where IN stands.
func TestLetGoAtOnce(t *testing.T) {
	for _, c := range []struct {
		body string
		live int
	}{
		// Parts without a name are let go at once, the others behind the arm.
		{"match E::C(box(1), box(2)) { E::C(b, c) => { IN }, _ => {} }", 2}, {"match E::C(box(1), box(2)) { E::C(b, _) => { IN }, _ => {} }", 1}, {"match E::C(box(1), box(2)) { E::C(_, b) => { IN }, _ => {} }", 1}, {"match E::C(box(1), box(2)) { E::C(_, _) => { IN }, _ => {} }", 0}, {"match E::C(box(1), box(2)) { E::N => {}, _ => { IN } }", 0}, {"match E::C(box(1), box(2)) { E::C(b, c) => { drop(b); IN }, _ => {} }", 1},
		{"let e = E::C(box(1), box(2)); match e { _ => { IN } }", 0}, {"match E::B(box(1), 2) { E::B(b, _) => { IN }, _ => {} }", 1}, {"match E::B(box(1), 2) { E::B(_, n) => { IN }, _ => {} }", 0},
		// A value is made ahead of what is let go behind it.
		{"let x = { let b = box(1); let c = box(2); { IN } 1 };", 2}, {"let mut b = box(1); b = { IN box(2) };", 1}, {"let mut b = box(1); b = Box::new({ let c = b; IN 1 });", 1}, {"let b = box(1); drop({ IN b });", 1}, {"two(box(1), { IN 2 });", 1}, {"let c = box(1); same({ let b = box(2); IN c });", 2}, {"[box(1), { let b = box(2); IN box(3) }];", 2}, {"Q { k: box(1), l: { IN [1, 2, 3] }, p: P { a: 1, b: 2 } };", 1}, {"E::C(box(1), { IN box(2) });", 1}, {"let mut b = box(1); replace(&mut b, { let c = box(2); IN c });", 2}, {"unbox(Box::new({ let b = box(1); IN b }));", 1}, {"let mut a = [box(1), box(2)]; a[{ IN 0 }] = box(3);", 3},
		// A param is let go behind its function's body, a statement's value behind the statement.
		{"full(box(1), box(2));", 2}, {"full(same(box(1)), box({ box(2); 3 }));", 2}, {"box(1); same(box(2)); { box(3); } IN", 0}, {"while { box(1); yes() } { box(2); IN }", 0}, {"if { let b = box(1); yes() } { IN }", 0}, {"match { let b = box(1); *b } { 1 => { IN }, _ => {} }", 0}, {"let b = box(1); while yes() { let c = box(2); { let d = box(3); } IN }", 2},
	} {
		text := inMain(strings.ReplaceAll(c.body, "IN", fill)) + " fn two(b: Box<i32>, n: i32) {} fn full(a: Box<i32>, b: Box<i32>) {" + fill + " }"
		wantFilled(t, text, c.live)
	}
}

// Each way out of a loop's block, and of blocks and arms in it, lets their variables go: as many turns as one likes leave none behind.
func TestLetGoByWaysOut(t *testing.T) {
	for _, c := range []struct {
		body string
		live int
	}{
		{"while i < 200 { i = i + 1; let b = box(i); }", 0},
		{"while i < 200 { i = i + 1; let b = box(i); let c = box(2); continue; }", 0},
		{"while i < 200 { i = i + 1; let b = box(i); { let c = box(2); if yes() { let d = box(3); continue; } } }", 0},
		{"while i < 200 { i = i + 1; let b = box(i); if yes() { b; continue; } }", 0},
		{"while i < 200 { i = i + 1; loop { let b = box(1); let c = box(2); break; } }", 0},
		{"while i < 200 { i = i + 1; loop { let b = box(1); { let c = box(2); if yes() { let d = box(3); break; } } } }", 0},
		{"while i < 200 { i = i + 1; match E::C(box(1), box(2)) { E::C(b, _) => { let d = b; continue; }, _ => {} } }", 0},
		{"while i < 200 { i = i + 1; match E::C(box(1), box(2)) { E::C(b, c) => { continue; }, _ => {} } }", 0},
		{"while i < 200 { i = i + 1; loop { match E::C(box(1), box(2)) { E::C(b, c) => { { b; } break; }, _ => {} } } }", 0},
		{"while i < 200 { i = i + 1; ret(box(i)); }", 0},
		{"while i < 200 { i = i + 1; let b = retBox(box(i), box(1)); }", 0},
		{"while i < 200 { i = i + 1; retDeep(box(i)); }", 0},
		{"while { let b = box(1); i = i + 1; if i < 100 { continue; } if i > 200 { break; } yes() } {}", 0},
		{"let a = box(1); while i < 200 { i = i + 1; let b = box(i); if i == 100 { break; } }", 1},
		{"let mut a = box(1); while i < 200 { i = i + 1; a = box(i); if i == 100 { let b = a; break; } }", 0},
		{"let a = box(1); loop { let b = box(2); let c = a; break; }", 0},
	} {
		text := inMain("let mut i = 0; "+c.body+fill) + ` fn ret(b: Box<i32>) -> i32 { let c = box(1); { let d = box(2); if yes() { return *d; } } 5 } fn retBox(a: Box<i32>, b: Box<i32>) -> Box<i32> { let c = box(3); if *b == 1 { return a; } c }
fn retDeep(a: Box<i32>) { let b = box(1); loop { let c = box(2); while yes() { let d = box(3); match E::C(box(4), box(5)) { E::C(e, f) => { let g = e; if yes() { return; } }, _ => {} } } } }`
		wantFilled(t, text, c.live)
	}
}

// Values that were made for a tree that is left in the midst are not let go; variables are.
func TestMadeAndLeft(t *testing.T) {
	for _, c := range []struct {
		body string
		live int
	}{
		{"loop { two(box(1), { break; }); }", 1}, {"loop { [box(1), box(2), { break; }]; }", 2}, {"loop { E::C(box(1), { break; }); }", 1}, {"loop { Q { k: box(1), p: { break; }, l: [1, 2, 3] }; }", 1}, {"loop { let b = [box(1), { break; }]; }", 1}, {"loop { Box::new([box(1), { break; }]); }", 1}, {"loop { two(same(box(1)), { break; }); }", 1}, {"loop { E::C({ break; }, box(1)); }", 0}, {"loop { Box::new({ box(1); break; }); }", 0},
		{"let mut a = [box(1), box(2)]; loop { a[{ break; 0 }] = box(3); }", 3}, {"let mut b = box(1); loop { b = { break; }; }", 1}, {"let mut b = box(1); loop { replace(&mut b, { break; }); }", 1}, {"let b = box(1); loop { two(b, { break; }); }", 1},
		{"loop { let b = box(1); two(box(2), { let c = box(3); break; }); }", 1}, {"loop { two(box(1), { match E::C(box(2), box(3)) { E::C(b, c) => { break; }, _ => 1 } }); }", 1},
		{"let mut i = 0; while i < 3 { i = i + 1; two(box(1), { continue; }); }", 3}, {"let mut i = 0; while i < 3 { i = i + 1; let b = box(1); [box(2), box(3), { let c = box(4); continue; }]; }", 6}, {"early(); early(); early();", 3}, {"let mut i = 0; while { two(box(1), { i = i + 1; if i < 3 { continue; } 1 }); no() } {}", 2},
	} {
		wantFilled(t, inMain(c.body+fill)+" fn two(b: Box<i32>, n: i32) {} fn early() { let b = box(1); two(box(2), { let c = box(3); return; }); }", c.live)
	}
}

// What is full stays so till something is let go: an assignment makes its value ahead of letting go what was there, a block its own.
func TestRoomAndOrder(t *testing.T) {
	start := "let a = [" + times(62, "box(0)") + "]; print(1); "
	memory := func(body string, print ...int) {
		t.Helper()
		wantRun(t, inMain(start+body), nil, api.OutMemory, 0, append([]int{1}, print...)...)
	}
	fine := func(body string, print ...int) {
		t.Helper()
		wantPrint(t, start+body, append([]int{1}, print...)...)
	}
	fine("let mut b = box(1); b = box(2); b = box(3); print(*b);", 3)
	memory("let c = box(1); let mut b = box(2); print(2); b = box(3);", 2)
	fine("let c = box(1); let mut b = box(2); b; b = box(3); print(*b);", 3)
	fine("let c = box(1); let mut b = box(2); b = Box::new(unbox(b) + 1); print(*b);", 3)
	memory("let c = box(1); let mut b = box(2); print(2); replace(&mut b, box(3));", 2)
	memory("let c = box(1); let b = { let d = box(1); print(2); box(2) };", 2)
	fine("let c = box(1); let b = { { let d = box(1); } box(2) }; print(*b);", 2)
	memory("let c = box(1); let d = Box::new({ let e = box(1); print(2); 1 + unbox(box(2)) });", 2)
	fine("let c = box(1); let d = Box::new(unbox(box(2))); print(*d);", 2)
	memory("let c = Box::new(box(1)); print(2); box(3);", 2)
	fine("let c = Box::new(box(1)); let d = unbox(c); let e = box(3); print(*d + *e);", 4)
	fine("drop(box(1)); drop(same(box(2))); let c = box(3); let d = same(box(4)); print(*c + *d);", 7)
}
