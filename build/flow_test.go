package build_test

import (
	"slices"
	"strconv"
	"strings"
	"testing"

	"ferrule/api"
)

// P13.2: values, blocks, ifs, matches, loops and calls.

func TestValues(t *testing.T) {
	wantPrint(t, "print(1); print(-1); print(true); print(false); print(255u8); print(-128i8); print(4294967295u32); print(2147483648u32); print(-2147483648); print(65535u16); print(K); print(LEAST);", 1, -1, 1, 0, 255, -128, 4294967295, 2147483648, -2147483648, 65535, 7, -128)
	wantPrint(t, "let p = P { b: say(2) as u8, a: say(1) }; show(&p); let q = Q { l: [say(4), say(5), say(6)], k: box(say(3)), p: p }; showQ(&q); let a = [say(7), say(8)]; print(a[1]); let r = [say(9); 3]; print(r[0] + r[2]);", 2, 1, 1, 2, 4, 5, 6, 3, 1, 2, 3, 456, 7, 8, 8, 9, 18)
	wantPrint(t, "let e = E::B(box(say(1)), say(2)); match e { E::B(b, n) => print(*b + n), _ => {} } let x = X::P(point(1, 2), [3, 4]); match x { X::P(p, l) => { show(&p); print(l[1]); }, _ => {} } match X::U((), U {}) { X::U(u, v) => { let w = v; print(9); }, _ => {} } match T::C { T::C => print(3), _ => {} }", 1, 2, 3, 1, 2, 4, 9, 3)
	wantPrint(t, "let p = [P { a: say(1), b: 2 }; 3]; show(&p[2]); let n = [[1, 2]; 2]; print(n[1][1]); let u = [say(5); 0]; let v = [P { a: say(6), b: 1 }; 0]; let w = [{ print(7); }; 3]; let x = [point(8, 9); 1]; show(&x[0]);", 1, 1, 2, 2, 5, 6, 7, 8, 9)
	wantPrint(t, "let b = Box::new(point(1, 2)); show(&*b); let c = Box::new(P { a: 3, b: 4 }); show(&*c); let p = unbox(c); show(&p); let d = Box::new([p, p]); show(&d[1]); let e = Box::new(X::P(p, [5, 6])); match unbox(e) { X::P(r, l) => { show(&r); print(l[0] + l[1]); }, _ => {} } let a = [1, 2, 3]; let f = Box::new(a); print(f[2]); let g = Box::new([say(7), say(8)]); print(g[0]); let h = Box::new(d[zero()]); show(&*h); let i = Box::new({ print(9); }); print(unbox(Box::new(say(1)))); print(unbox(unbox(Box::new(Box::new(2)))));", 1, 2, 3, 4, 3, 4, 3, 4, 3, 4, 11, 3, 7, 8, 7, 3, 4, 9, 1, 1, 2)
	// A value whose blocks come behind what it needs: there is room for one only.
	wantRun(t, inMain("let mut a = ["+strings.TrimSuffix(strings.Repeat("box(1), ", 63), ", ")+"]; print(1); let b = Box::new({ let c = box(2); *c }); print(2); let d = Box::new([0, unbox(b)]); print(3); let e = Box::new([d[1], 1]); print(4);"), nil, api.OutMemory, 0, 1, 2, 3)
	wantPrint(t, "let mut b = box(1); print(replace(&mut *b, 2)); print(*b); let c = replace(&mut b, box(3)); print(*c); print(*b); let mut p = point(1, 2); let r = replace(&mut p, point(3, 4)); show(&r); show(&p); let s = replace(&mut p, r); show(&s); show(&p); let mut u = (); replace(&mut u, { print(5); }); let mut x = 1; let y = replace(&mut x, say(6)) + x; print(y); let mut q = q(); let k = replace(&mut q.k, box(8)); print(*k); let l = replace(&mut q.l, [7, 8, 9]); print(l[0]); showQ(&q);", 1, 2, 2, 3, 1, 2, 3, 4, 3, 4, 1, 2, 5, 6, 7, 3, 4, 1, 2, 8, 789)
	wantRun(t, inMain("print(read()); print(read() + read()); print(read());"), []int{5, 1 << 40, -7}, api.OutExit, 0, 5, -7, 0)
	wantRun(t, inMain("print(read());"), []int{1<<31 + 3}, api.OutExit, 0, -1<<31+3)
}

func TestBlocksAndChoices(t *testing.T) {
	wantPrint(t, "{ print(1); { print(2); } } print({ print(3); 4 }); let x = { let y = 5; y + { let y = y + 1; y } }; print(x); let u = { x; }; let p = { let q = point(1, 2); q }; show(&p); {}", 1, 2, 3, 4, 11, 1, 2)
	wantPrint(t, "if yes() { print(1); } if no() { print(2); } if yes() { print(3); } else { print(4); } if no() { print(5); } else { print(6); } if no() { print(7); } else if yes() { print(8); } else { print(9); } if no() { print(10); } else if no() { print(11); } if true { print(12); } if false { print(13); } else { print(14); }", 1, 3, 6, 8, 12, 14)
	wantPrint(t, "print(if yes() { 1 } else { 2 }); print(if no() { 1 } else if no() { 2 } else { 3 }); let b = if yes() { box(1) } else { box(2) }; print(*b); let p = if no() { point(1, 2) } else { P { a: 3, b: 4 } }; show(&p); let a = [if yes() { 5 } else { 6 }, 7]; print(a[0]); let c = Box::new(if no() { [1, 2] } else { [3, 4] }); print(c[1]); let x = if yes() { 9 } else { return; }; print(x); let y: i32 = if no() { return; } else { 8 }; print(y);", 1, 3, 1, 3, 4, 5, 4, 9, 8)
}

func TestMatches(t *testing.T) {
	wantPrint(t, "let mut i = -1; while i < 4 { print(match i { 0 => 10, -1 => 11, 2 => say(12), _ => 13 }); i = i + 1; }", 11, 10, 13, 12, 12, 13)
	wantPrint(t, "match yes() { true => print(1), false => print(2) } match no() { true => print(3), _ => print(4) } match 255u8 { 255 => print(5), _ => print(6) } match LEAST { -128 => print(7), _ => print(8) } match 4294967295u32 { 0 => print(9), 4294967295 => print(10), _ => print(11) } match say(1) { _ => print(12) }", 1, 4, 5, 7, 10, 1, 12)
	wantPrint(t, "print(match E::A(5) { E::N => 0, E::A(n) => n + 1, E::B(b, n) => *b + n, E::C(b, c) => *b + *c }); print(match E::B(box(1), 2) { E::N => 0, E::A(n) => n + 1, E::B(b, n) => *b + n, E::C(b, c) => *b + *c }); print(match E::C(box(4), box(5)) { E::C(_, c) => *c, _ => 0 }); print(match E::C(box(4), box(5)) { E::C(b, _) => *b, _ => 0 }); match E::N { E::N => print(8), _ => print(9) }", 6, 3, 5, 4, 8)
	wantPrint(t, "let x = 1; match E::A(2) { E::A(x) => { print(x); let x = x + 1; print(x); }, _ => {} } print(x); match E::B(box(3), 4) { E::B(a, b) => { let c = a; print(*c * 10 + b); }, _ => {} } let e = E::B(box(7), 8); match e { E::N => {}, E::A(n) => print(n), E::C(_, _) => {}, E::B(a, b) => print(*a + b) }", 2, 3, 1, 34, 15)
	wantPrint(t, "let x = X::Q(q()); match x { X::N => {}, X::P(_, _) => {}, X::Q(q) => { showQ(&q); }, X::U(_, _) => {} } let mut y = X::P(point(1, 2), [3, 4]); y = match y { X::P(p, _) => X::P(p, [p.a, 7]), _ => X::N }; match y { X::P(p, l) => { show(&p); print(l[0]); print(l[1]); }, _ => {} } let p = match T::B { T::A => point(1, 1), T::B => point(2, 2), T::C => { return; } }; show(&p);", 1, 2, 3, 456, 1, 2, 1, 7, 2, 2)
	// A place that can be copied is matched as a copy; the place is run once.
	wantRun(t, "enum F { A(i32), B, C(i32, i32) } fn f(x: &mut F) { match *x { F::A(n) => { *x = F::C(n, n + 1); }, F::C(a, b) => { *x = F::B; print(a * 10 + b); }, F::B => print(3) } } fn main() { let mut x = F::A(1); f(&mut x); f(&mut x); f(&mut x); let mut a = [F::B, F::C(4, 5)]; match a[{ print(7); 1 }] { F::C(a, b) => print(a + b), _ => {} } match a[0] { F::B => { a[0] = F::A(6); match a[0] { F::A(n) => print(n), _ => {} } }, _ => {} } let b = Box::new(F::A(8)); match *b { F::A(n) => print(n), _ => {} } }", nil, api.OutExit, 0, 12, 3, 7, 9, 6, 8)
	wantRun(t, "enum V {} fn f(v: V) -> i32 { match v {} } fn g(b: bool) -> i32 { match b { true => { return 1; }, false => { return 2; } } } fn main() { print(g(true)); print(g(false)); }", nil, api.OutExit, 0, 1, 2)
}

// Matches of many arms come to the right one, from every number and variant; and soon (P13.3).
func TestManyArms(t *testing.T) {
	for _, many := range []int{1, 2, 3, 4, 5, 8, 33, 700, 3000} {
		var arms, variants, named []string
		for k := range many {
			arms = append(arms, strconv.Itoa(3*k-many)+" => "+strconv.Itoa(k))
			variants = append(variants, "V"+strconv.Itoa(k))
			named = append(named, "E::V"+strconv.Itoa(k)+" => "+strconv.Itoa(k))
		}
		slices.Reverse(arms)
		numbers := "fn f(n: i32) -> i32 { match n { " + strings.Join(arms, ", ") + ", _ => -1 } } fn main() { let mut i = read(); let n = read(); while i < n { print(f(i)); i = i + 1; } }"
		for from := -many - 2; from < 2*many+5; from += max(1, many/3) {
			var print []int
			for n := from; n < from+9; n++ {
				k := (n + many) / 3
				if (n+many)%3 != 0 || n < -many || k >= many {
					k = -1
				}
				print = append(print, k)
			}
			wantRun(t, numbers, []int{from, from + 9}, api.OutExit, 0, print...)
		}
		if many > 300 {
			continue // an enum has fewer variants
		}
		at := []int{0, many / 2, many - 1}
		var calls string
		for _, k := range at {
			calls += "print(f(E::V" + strconv.Itoa(k) + ")); "
		}
		wantRun(t, "enum E { "+strings.Join(variants, ", ")+" } fn f(e: E) -> i32 { match e { "+strings.Join(named, ", ")+" } } fn main() { "+calls+"}", nil, api.OutExit, 0, at...)
		wantRun(t, "enum E { "+strings.Join(variants, ", ")+" } fn f(e: E) -> i32 { match e { "+strings.Join(named[:many/2], ", ")+strings.Repeat(", ", min(1, many/2))+"_ => 1000 } } fn main() { print(f(E::V"+strconv.Itoa(many-1)+")); }", nil, api.OutExit, 0, 1000)
	}
}

func TestLoops(t *testing.T) {
	wantPrint(t, "let mut i = 0; while i < 3 { print(i); i = i + 1; } print(i); while no() { print(9); } while i < 0 {} ", 0, 1, 2, 3)
	wantPrint(t, "let mut i = 0; loop { if i == 3 { break; } i = i + 1; if i == 2 { continue; } print(i); } print(i);", 1, 3, 3)
	wantPrint(t, "let mut i = 0; while i < 6 { i = i + 1; if i == 2 { continue; } if i == 5 { break; } print(i); } print(i);", 1, 3, 4, 5)
	wantPrint(t, "let mut i = 0; while ask(100 + i, i < 2) { i = i + 1; let mut j = 0; loop { j = j + 1; match j { 1 => { continue; }, 3 => { { if yes() { break; } } }, _ => {} } print(j); } print(10 + i); }", 100, 2, 11, 101, 2, 12, 102)
	wantPrint(t, "let mut i = 0; loop { while yes() { i = i + 1; if i > 2 { break; } } print(i); break; } print(7);", 3, 7)
	wantPrint(t, "let mut i = 0; while { i = i + 1; if i == 3 { break; } yes() } { print(i); } print(i); while { i = i + 1; if i < 6 { continue; } i < 8 } { print(i); } print(i);", 1, 2, 3, 6, 7, 8)
	// Variables of a turn are new in each.
	wantPrint(t, "let mut i = 0; while i < 3 { let mut x = 0; let mut p = point(0, 0); x = x + i; p.a = p.a + i; print(x); print(p.a); i = i + 1; }", 0, 0, 1, 1, 2, 2)
}

// Trees that are left in the midst are left whole.
func TestLeftInTheMidst(t *testing.T) {
	wantPrint(t, "loop { print(say(1) + { break; }); } print(2);", 1, 2)
	wantPrint(t, "let mut i = 0; while i < 2 { i = i + 1; let x = [say(i), { if i == 1 { continue; } 5 }, say(10)]; print(x[1]); }", 1, 2, 10, 5)
	wantPrint(t, "loop { let p = P { b: say(1) as u8, a: { break; } }; print(9); } loop { drop(box({ break; })); } loop { E::A({ break; }); } loop { say(1) < { break; }; } loop { ask(1, { break; }); } loop { match { break; 5 } { 5 => print(8), _ => {} } } loop { let mut x = 1; x = { break; 2 }; print(9); } print(3);", 1, 1, 3)
	wantPrint(t, "let mut a = [1, 2]; loop { a[{ break; 0 }] = say(5); } print(a[0]); loop { if { break; yes() } { print(9); } } loop { while { break; yes() } { print(7); break; } print(8); break; } loop { no() || { break; no() }; }", 5, 1, 8)
	wantPrint(t, "print(1); return; print(2);", 1)
	wantPrint(t, "loop { while yes() { { match 1 { 1 => { if yes() { print(1); return; } }, _ => {} } } print(2); } print(3); }", 1)
	// What a variable held stays, where its new value is left in the midst.
	wantPrint(t, "let mut p = point(1, 2); loop { p = P { a: 7, b: { break; } }; } show(&p); let mut a = [1, 2]; loop { a = [8, { break; }]; } print(a[0]); let mut b = Box::new([1, 2]); loop { *b = [8, { break; }]; } print(b[0]); let mut x = X::N; loop { x = X::P(p, { break; }); } match x { X::N => print(5), _ => print(6) }", 1, 2, 1, 1, 5)
	wantPrint(t, "let x: i32 = { return; }; print(x);")
	wantPrint(t, "loop { let p: P = { break; }; show(&p); } loop { Box::new({ break; }); } loop { let a: [P; 2] = [point(1, 2), { break; }]; } loop { [{ break; }, ()]; } loop { if { break; } { print(1); } } loop { true && { break; }; } loop { two(1, { break; }); } loop { show2(point(1, 1), { break; }); } loop { return { break; }; } loop { ({ break; } + 1); } print(1);", 1)
}

func TestCalls(t *testing.T) {
	run := func(text string, print ...int) { t.Helper(); wantRun(t, text+items, nil, api.OutExit, 0, print...) }
	run("fn f(a: i32, b: bool) -> i32 { if b { return a; } print(5); a + 1 } fn main() { print(f(1, true)); print(f(2, false)); f(say(3), ask(4, true)); }", 1, 5, 3, 3, 4)
	run("fn f(mut n: i32) -> i32 { n = n + 1; n } fn main() { let n = 5; print(f(n)); print(n); print(f(f(f(n)))); }", 6, 5, 8)
	run("fn fact(n: i32) -> i32 { if n == 0 { 1 } else { n * fact(n - 1) } } fn main() { print(fact(10)); let mut i = 0; while i < 5 { print(fact(i)); i = i + 1; } }", 3628800, 1, 1, 2, 6, 24)
	run("fn even(n: i32) -> bool { if n == 0 { true } else { odd(n - 1) } } fn odd(n: i32) -> bool { if n == 0 { return false; } even(n - 1) } fn main() { print(even(10)); print(odd(7)); print(even(7)); }", 1, 1, 0)
	run("fn p(n: i32) -> P { P { a: n, b: 1 } } fn a(x: P) -> [i32; 2] { [x.a, x.b as i32] } fn u() -> () { return (); } fn main() { let x = a(p(4)); print(x[0] + x[1]); u(); let y = u(); let z = a(P { a: say(6), b: 7 }); print(z[1]); }", 5, 6, 7)
	run("fn r(n: i32) -> i32 { loop { if n > 2 { return n; } let mut i = 0; while yes() { i = i + 1; match i { 3 => { return i * 10; }, _ => { if i > n { return i; } } } } } } fn main() { print(r(3)); print(r(2)); print(r(1)); }", 3, 30, 2)
	run("fn r() -> i32 { say(1) + { return say(2); } } fn s() -> P { return { return point(3, 4); }; } fn w() -> P { P { a: 9, b: { return point(5, 6); } } } fn main() { print(r()); let p = s(); show(&p); let q = w(); show(&q); }", 1, 2, 2, 3, 4, 5, 6)
	run("fn f(n: i32) -> i32 { let mut x = n; if n > 0 { f(n - 1); x = x + 10; } print(x); x } fn main() { f(2); }", 0, 11, 12)
	run("fn f(u: (), a: i32, v: U, w: [(); 3]) -> U { print(a); v } fn main() { f({ print(1); }, 2, { print(3); U {} }, [(); 3]); }", 1, 3, 2)
	// As many words as may be passed, and answered.
	run("struct S { a: i32, b: [u8; 2], p: P, l: [i16; 3] } fn f(mut s: S) -> S { print(s.a); print(s.b[1]); show(&s.p); print(s.l[2]); s.l[0] = 9; s } fn main() { let s = f(S { a: 1, b: [2, 3], p: point(4, 5), l: [6, 7, 8] }); print(s.l[0] * 100 + s.l[1] * 10 + s.l[2]); show(&s.p); let t = f(s); print(t.b[0]); }", 1, 3, 4, 5, 8, 978, 4, 5, 1, 3, 4, 5, 8, 2)
	run("fn f(a: i32, b: P, c: Box<i32>, d: &i32, e: [u8; 3]) -> [i32; 8] { [a, b.a, b.b as i32, *c, *d, e[0] as i32, e[1] as i32, e[2] as i32] } fn main() { let x = 5; let r = f(1, point(2, 3), box(4), &x, [6, 7, 8]); let mut i = 0; while i < 8 { print(r[i]); i = i + 1; } let b = Box::new(f(9, P { a: 8, b: 7 }, box(6), &r[4], [4, 3, 2])); print(b[0] + b[7]); }", 1, 2, 3, 4, 5, 6, 7, 8, 11)
	run("fn f(e: E, n: i32) -> E { match e { E::N => E::A(n), E::A(m) => E::B(box(m), n), E::B(b, m) => E::C(b, box(m + n)), E::C(_, _) => E::N } } fn g(e: E) -> i32 { match e { E::N => 0, E::A(n) => n, E::B(b, n) => *b + n, E::C(b, c) => *b * *c } } fn main() { print(g(f(E::N, 1))); print(g(f(f(E::N, 1), 2))); print(g(f(f(f(E::N, 1), 2), 3))); print(g(f(f(f(f(E::N, 1), 2), 3), 4))); }", 1, 3, 5, 0)
	// What is told is told by functions of any order and name; main calls itself, too.
	run("const THREE: i32 = 3; fn main() { if read() == 0 { print(add(1, THREE)); } else { main(); } } fn add(a: i32, b: i32) -> i32 { a + b }", 4)
}

// MaxDepth calls may be under way, and not one more.
func TestDepth(t *testing.T) {
	deep := func(calls int) string {
		return "fn f(n: i32) { print(n); if n > 1 { f(n - 1); } print(n); } fn main() { f(" + strconv.Itoa(calls-1) + "); print(1000); }"
	}
	var down []int
	for n := 47; n > 0; n-- {
		down = append(down, n)
	}
	up := slices.Clone(down)
	slices.Reverse(up)
	wantRun(t, deep(api.MaxDepth), nil, api.OutExit, 0, slices.Concat(down, up, []int{1000})...)
	wantRun(t, deep(api.MaxDepth+1), nil, api.OutDepth, 0, append([]int{48}, down[:46]...)...)
	wantRun(t, "fn main() { main(); }", nil, api.OutDepth, 0)
	wantRun(t, "fn f(n: i32, m: i32) -> i32 { if n == 1 { return m; } f(n - 1, { print(n); n }) } fn main() { print(f(3, 0)); print(f(2, f(3, 5))); f(60, 1); }", nil, api.OutDepth, 0, slices.Concat([]int{3, 2, 2, 3, 2, 2, 2}, []int{60, 59, 58, 57, 56, 55, 54, 53, 52, 51, 50, 49, 48}, down[:33], []int{14})...)
}
