package drops_test

import (
	"strconv"
	"strings"
	"testing"

	"ferrule/api"
)

// P14.2 of programs: what is let go, and when. How many Boxes are live is asked by filling the heap.

func TestLetGo(t *testing.T) {
	for _, c := range []struct {
		body string
		live int
	}{
		{"", 0}, {"let b = box(1);", 1}, {"{ let b = box(1); }", 0}, {"box(1);", 0}, {"let b = box(1); b;", 0}, {"let b = box(1); drop(b);", 0}, {"let b = Box::new(Box::new(box(1)));", 3}, {"{ let b = Box::new(Box::new(box(1))); }", 0}, {"Box::new(Box::new(box(1)));", 0}, {"let b = unbox(Box::new(box(1)));", 1}, {"Box::new(());", 0}, {"unbox(Box::new(box(1)));", 0},
		// In structs, arrays and enums.
		{"let x = q();", 1}, {"q();", 0}, {"let o = OB { b: box(1) }; o;", 0}, {"{ let o = [OB { b: box(1) }]; }", 0}, {"let n = N { b: [box(1), box(2)] };", 2}, {"{ let n = [N { b: [box(1), box(2)] }, N { b: [box(3), box(4)] }]; }", 0}, {"[[box(1), box(2)], [box(3), box(4)], [box(5), box(6)]];", 0}, {"let a: [Box<i32>; 0] = []; a;", 0}, {"let e = [E::N, E::A(1), E::B(box(1), 2), E::C(box(1), box(2))];", 3}, {"let e = [E::N, E::A(1), E::B(box(1), 2), E::C(box(1), box(2))]; e;", 0}, {"Box::new(OB { b: box(1) });", 0}, {"Box::new([N { b: [box(1), box(2)] }]);", 0}, {"{ let x = r(); }", 0}, {"X::R(r()); X::E([E::C(box(1), box(2)), E::B(box(1), 2)], ()); X::Q(q()); X::N;", 0}, {"{ let x = [X::N, X::Q(q()), X::R(r())]; }", 0}, {"{ let t = tree(7); } { let t = Box::new(tree(6)); }", 0}, {"let l = L::C(Box::new(L::C(Box::new(L::N)))); l;", 0},
		// Overwritten, replaced.
		{"let mut b = box(1); b = box(2); b = box(3);", 1}, {"let mut x = q(); x.k = box(2);", 1}, {"let mut a = [box(1), box(2)]; a[zero()] = box(3); a = [box(4), box(5)];", 2}, {"let mut b = Box::new(box(1)); *b = box(2);", 2}, {"let mut e = E::C(box(1), box(2)); e = E::N;", 0}, {"let mut x = q(); replace(&mut x.k, box(2)); replace(&mut x, q());", 1}, {"let mut b = Box::new([box(1), box(2)]); b[1] = box(3);", 3}, {"let mut x = r(); x.b[2] = Box::new(E::N); *x.a = q(); **x.c = 6; x = r(); x;", 0},
		// On some ways.
		{"let b = box(1); if yes() { drop(b); }", 0}, {"let b = box(1); if no() { drop(b); }", 1}, {"{ let b = box(1); if no() { drop(b); } }", 0}, {"{ let b = box(1); yes() && { drop(b); true }; }", 0}, {"{ let x = q(); match 3 { 1 => { x; }, 2 => { eatQ(x); }, _ => {} } }", 0}, {"{ let x = q(); match 2 { 1 => { x; }, 2 => { eatQ(x); }, _ => {} } }", 0}, {"let mut b = box(1); if yes() { drop(b); } b = box(2);", 1}, {"let mut b = box(1); if no() { drop(b); } b = box(2);", 1}, {"let mut b = box(1); let mut i = 0; while i < 70 { if i % 2 == 0 { drop(b); } b = box(i); i = i + 1; }", 1}, {"{ let t = tree(5); if no() { t; } }", 0}, {"{ let x = r(); let y = r(); if no() { x; } else if yes() { y; } }", 0}, {"{ let b = box(1); let c = box(2); if yes() { drop(b); if no() { drop(c); } } }", 0},
		// Loops, and what leaves them.
		{"let mut i = 0; while i < 100 { let b = Box::new(box(i)); i = i + 1; if i == 50 { break; } let c = box(i); if i % 3 == 0 { continue; } drop(c); }", 0}, {"let mut i = 0; loop { let b = q(); i = i + 1; { let c = E::B(box(i), 1); if i == 100 { break; } } }", 0}, {"let mut i = 0; while { let b = box(i); *b < 100 } { i = i + 1; }", 0}, {"let mut i = 0; while i < 40 { match E::C(box(i), box(i)) { E::C(a, _) => { i = i + 1; if i % 3 == 0 { continue; } let c = a; }, _ => {} } }", 0},
		{"loop { [box(1), { break; }]; }", 1}, {"let mut a = [box(1), box(2)]; loop { a[{ break; 0 }] = box(3); }", 3},
	} {
		wantLive(t, c.body, c.live)
	}
}

// Each end of a function lets go what is still there: by what was moved on the way.
func TestEnds(t *testing.T) {
	text := "fn f(n: i32, a: Box<i32>, mut b: Box<Q>) -> Box<i32> { let c = Box::new(n); if n == 1 { return a; } if n == 2 { b = Box::new(Q { p: b.p, k: a, l: b.l }); return c; } { let d = E::B(c, 1); if n == 3 { return a; } if n == 4 { return match d { E::B(e, _) => e, _ => a }; } } if n > 5 { a } else { Box::new(*b.k) } }"
	for k := range 8 {
		wantRun(t, inMain("let mut i = 0; while i < 40 { let b = f("+strconv.Itoa(k)+", box(7), Box::new(q())); i = i + 1; }"+fill)+text, nil, api.OutMemory, 0, thousands(64)...)
	}
	// A panic lets nothing go.
	wantRun(t, inMain("let b = box(1); print(1); let c = Box::new(q()); print(1 / zero());"), nil, api.OutExit, 101, 1)
}

func thousands(n int) []int {
	var out []int
	for range n {
		out = append(out, 1000)
	}
	return out
}

// Lists are as long as the heap has blocks of their class: those of others may stand between.
func TestLongLists(t *testing.T) {
	for _, c := range []struct {
		node   string
		blocks int
	}{{"[i32; 0]", 64}, {"[i32; 10]", 32}, {"[i32; 50]", 16}, {"[i32; 100]", 8}} {
		text := "enum L { N, C(" + c.node + ", Box<L>) } fn main() { let mut i = 0; while i < 5 { let mut l = L::N; let mut k = 0; while k < " + strconv.Itoa(c.blocks) + " { l = L::C([0; " + c.node[6:] + ", Box::new(l)); k = k + 1; } if i == 3 { l = L::N; } print(i); i = i + 1; } }"
		wantRun(t, text, nil, api.OutExit, 0, 0, 1, 2, 3, 4)
		more := strings.Replace(text, "k < "+strconv.Itoa(c.blocks), "k < "+strconv.Itoa(c.blocks+1), 1)
		wantRun(t, more, nil, api.OutMemory, 0)
	}
	// All 120 blocks in one value, one in another one.
	text := "enum A { N, A([i32; 0], Box<A>), B(Box<B>) } enum B { N, A([i32; 14], Box<B>), B(Box<C>) } enum C { N, A([i32; 60], Box<C>), B(Box<D>) } enum D { N, A([i32; 120], Box<D>) } fn main() { let mut i = 0; while i < 3 { let mut d = D::N; let mut k = 0; while k < 7 { d = D::A([0; 120], Box::new(d)); k = k + 1; } let mut c = C::B(Box::new(d)); k = 0; while k < 15 { c = C::A([0; 60], Box::new(c)); k = k + 1; } let mut b = B::B(Box::new(c)); k = 0; while k < 31 { b = B::A([0; 14], Box::new(b)); k = k + 1; } let mut a = A::B(Box::new(b)); k = 0; while k < 64 { a = A::A([], Box::new(a)); k = k + 1; } print(i); i = i + 1; } deep(46); } fn deep(n: i32) { if n > 0 { deep(n - 1); } }"
	wantRun(t, text, nil, api.OutExit, 0, 0, 1, 2)
}

// Letting go counts no call: at the deepest one there is room for it, but not for a call of the program's own.
func TestDeepestCall(t *testing.T) {
	const whole = "Q { p: P { a: 1, b: 2 }, k: Box::new(3), l: [4, 5, 6] }"
	const rich = "R { a: Box::new(" + whole + "), b: [Box::new(E::C(Box::new(1), Box::new(2))), Box::new(E::N), Box::new(E::A(1))], c: Box::new(Box::new(5)) }"
	list := "let mut l = L::N; let mut i = 0; while i < 60 { l = L::C(Box::new(l)); i = i + 1; }"
	for _, body := range []string{list, list + " l;", "let mut l = L::N; loop { l = L::C(Box::new(l)); break; } if n == 1 { l; }", rich + ";", "let x = [X::N, X::R(" + rich + ")];", "let t = Box::new([T::Two(Box::new(T::Leaf), 1, Box::new(T::Leaf))]);"} {
		text := "fn deep(n: i32) { if n == 0 { " + body + " } else { deep(n - 1); } print(n); }" + items
		want := []int{}
		for k := range 47 {
			want = append(want, k)
		}
		wantRun(t, "fn main() { deep(46); } "+text, nil, api.OutExit, 0, want...)
		wantRun(t, "fn main() { deep(47); } "+text, nil, api.OutDepth, 0)
	}
	// Calls of calls of functions of l that are quiet are as many as mir takes.
	body := []api.Block{
		block(branch(v(0), 1, 2)),
		block(answer(), bin(0, v(0), "sub", n(1)), calls(nil, "deep", v(0))),
		block(answer(), alloc(1, 1), give(1), alloc(2, 1), drop(boxed(u8), at(2)), empty(boxed(u8), 1), alloc(1, 1), store(at(3), v(1)), alloc(1, 1), store(at(3, step(2)), v(1)), drop(named("Pair"), at(3)), show(n(7))),
	}
	deep := quiet(fn("deep", []int{1, 1, 1, 3}, 1, 0, body...))
	comes(t, "at the last call", api.OutExit, 0, []int{7}, mixedItems(), starts([]int{1}, calls(nil, "deep", n(4*api.MaxDepth+200-2))), deep)
	comes(t, "a call more", api.OutDepth, 0, nil, mixedItems(), starts([]int{1}, calls(nil, "deep", n(4*api.MaxDepth+200-1))), deep)
}
