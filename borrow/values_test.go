package borrow

import (
	"testing"

	"ferrule/api"
)

// TestExamples are the chapter's.
func TestExamples(t *testing.T) {
	wantProgram(t, api.ErrMoved, "fn main() { let b = Box::new(1); let c = b; print(*@b); }")
	wantProgram(t, api.ErrShared, "fn main() { let mut x = 1; f(&mut x, @x); } fn f(a: &mut i32, b: i32) {}")
}

func TestProgramsWithoutErrors(t *testing.T) {
	wantProgram(t, api.OK, "fn main() {}", others+"fn main() {}", inMain(""), inMain(start))
	wantTaken(t, "print(x + y * -x); l[0] = l[1]; p = P { a: p.b, b: p.a }; print(l[x]);", "let d = b; let f = d; print(*f);", "let d = Box::new(b); print(**d);", "let d = E::A(b); match d { E::A(f) => { print(*f); }, _ => {} }",
		"let d = [b, c]; print(*d[0]); let f = d;", "let d = Q { p: p, k: b, l: l, n: n }; print(p.a + l[0]);", "unbox(b); unbox(c); unbox(unbox(bb));", "print(see(&x)); print(set(&mut x)); print(seen(&b)); print(looked(&q)); print(changed(&mut q));",
		"let old = replace(&mut b, c); print(*old); print(*b);", "eat(b); eat(c);", "print(*b); print(*b); print(**bb); print(q.p.a + q.l[1] + *q.k + *q.n[0]);", "let d = { b }; print(*d);", "let d = if t { b } else { c }; print(*d);",
		"let u = (); let v = u; let w = u;", "let f = p; let g = p; let h = l; let i = l;", "let f = E::N; f; let d = [(); 3]; d; d;")
	wantIn(t, api.OK, "r: &mut Q, s: &Q, k: Box<i32>, mut v: i32", "print(*r.k + *s.k); r.p = s.p; *r.k = *k; eat(k); v = v; changed(r); looked(s); looked(s); changed(r); mq(r, s); qq(s, s); v = r.p.a; replace(r, q()); replace(&mut r.k, give());")
}

// TestValueOfAVariable: one whose type is copied stays; another one is moved away, wherever its value is used.
func TestValueOfAVariable(t *testing.T) {
	wantWrong(t, api.ErrMoved, "let d = b; let f = @b;", "let d = b; @b;", "b; @b;", "b; eat(@b);", "eat(b); print(*@b);", "unbox(b); print(*@b);", "Box::new(b); @b;", "E::A(b); @b;", "E::B(1, b); @b;", "[b, c]; @c;", "[b, @b];",
		"Q { p: p, k: b, l: l, n: [c, @b] };", "Q { k: b, n: [@b, c], p: p, l: l };", "three(b, c, @b);", "three(b, @b, c);", "{ b }; @b;", "let d: Box<i32> = b; @b;", "x = eat(b); @b;", "c = b; @b;", "q.k = b; @b;", "*bb = b; @b;", "n[0] = b; @b;",
		"print(-eat(b)); @b;", "ask(b) as u8; @b;", "!ask(b); @b;", "eat(b) + eat(@b);", "eat(b) < eat(@b);", "[eat(b); 2]; @b;", "match e { _ => {} } @e;", "match e { E::A(d) => {}, _ => {} } @e;", "match eat(b) { _ => {} } @b;", "if ask(b) {} @b;",
		"while ask(b) { break; } @b;", "replace(&mut c, b); @b;", "l[eat(b)]; @b;", "n; @n;", "q; @q;", "bb; @bb;", "e; @e;", "let d = bb; print(**@bb);", "print({ let d = b; 1 } + *@b);")
	wantProgram(t, api.ErrMoved, "fn f(b: Box<i32>) -> Box<i32> { let c = b; @b } fn main() {}", "fn f(b: Box<i32>) -> Box<i32> { let c = b; return @b; } fn main() {}", "fn f(b: Box<i32>, c: Box<i32>) { b; c; @b; } fn main() {}")
	wantTaken(t, "x; x; let d = x; x + x; t; t; !t; l; l; p; p;")
}

// TestValueOfAPart: one whose type is not copied can't be moved out of a field, an index, a deref.
func TestValueOfAPart(t *testing.T) {
	wantWrong(t, api.ErrMove, "let d = q@.k;", "q@.k;", "eat(q@.k);", "q@.n;", "let d = n@[0];", "n@[x];", "q.n@[0];", "let d = @*bb;", "eat(@*bb);", "unbox(@*bb);", "b = q@.k;", "Box::new(q@.k);", "[q@.k];", "{ q@.k };", "if t { q@.k } else { b };", "E::A(n@[1]);", "replace(&mut b, q@.k);",
		"let d = D { q: q, m: Box::new(q()), e: e }; match d@.e { _ => {} }", "let d = D { q: q, m: Box::new(q()), e: e }; d@.m;", "let d = D { q: q, m: Box::new(q()), e: e }; d.m@.k;", "let d = D { q: q, m: Box::new(q()), e: e }; d@.q;", "let d = D { q: q, m: Box::new(q()), e: e }; @*d.m;", "Q { p: p, k: q@.k, l: l, n: n };")
	wantIn(t, api.ErrMove, "r: &mut Q, s: &Q, u: &Box<i32>, v: &mut Box<i32>", "r@.k;", "s@.k;", "@*r;", "@*s;", "@*u;", "@*v;", "r.n@[1];", "eat(@*u);", "*v = @*u;", "changed(r); part(@*r);")
	wantProgram(t, api.ErrMove, "fn f(q: Q) -> Box<i32> { q@.k } fn main() {}"+others, "fn f(q: &Q) -> Box<i32> { return q@.k; } fn main() {}"+others)
	wantTaken(t, "q.p; q.l; q.p.a; l[0]; *b; **bb; *q.k; *n[0]; *q.n[1]; q.p = q.p;")
}

// TestLook: places of which the value is copied, or that are assigned, or borrowed, are looked at.
func TestLook(t *testing.T) {
	wantWrong(t, api.ErrMoved, "b; *@b;", "b; print(*@b);", "bb; **@bb;", "q; @q.p;", "q; @q.p.a;", "q; *@q.k;", "q; @q.l[0];", "n; *@n[1];", "b; *@b = 1;", "q; @q.p = p;", "q; @q.k = b;", "n; @n[0] = b;", "bb; *@bb = b;", "q; @q.l[1] = 1;", "q; @q.l[x] = 1;", "q; q.p.a = @q.p.b;",
		"b; seen(&@b);", "b; swap(&mut @b);", "b; see(&*@b);", "b; set(&mut *@b);", "q; looked(&@q);", "q; changed(&mut @q);", "q; see(&@q.p.a);", "q; set(&mut @q.l[0]);", "q; seen(&@q.k);", "n; seen(&@n[0]);", "b; replace(&mut @b, c);", "q; replace(&mut @q.k, c);", "bb; replace(&mut *@bb, c);",
		"b; l[*@b];", "b; l[0] = *@b;", "b; l[*@b] = 0;", "b; see(&l[*@b]);", "b; set(&mut l[*@b]);", "b; print(*@b);", "b; match *@b { _ => {} }", "b; if *@b == 1 {}", "b; while *@b == 1 {}", "b; [*@b; 2];", "b; *@b as u8;")
	wantTaken(t, "b; *c; **bb;", "q; n; b; l[0]; p.a;")
}

// TestAssignment: its value first; a variable has a value again behind it, a part of one does not give it back.
func TestAssignment(t *testing.T) {
	wantTaken(t, "b; b = c; b;", "b = b; b;", "b; b = give(); print(*b); b; b = give(); b;", "q; q = q(); print(q.p.a); q;", "b = { b; give() }; b;", "c = { b }; b = c; b;", "n; n = [b, c]; n;", "e; e = E::A(b); match e { E::A(d) => { d; }, _ => {} }", "eat(b) + { b = give(); 1 } + eat(b);")
	wantWrong(t, api.ErrMoved, "b; b = @b;", "b; c = @b;", "b = c; b = @c;", "b; b = c; b; @b;", "b; b = c; @c;", "q; @q.k = b; q;", "n; @n[0] = b;", "bb; *@bb = b;", "q; @q.k = { b; give() };", "q; @q.k = { q = q(); q; b };", "b; *@b = { 1 };", "n; @n[eat(b)] = c;", "n; n[0] = { n = [b, c]; give() }; @b;")
	// The value is run first: so a place that its value moves away, or gives, is.
	wantWrong(t, api.ErrMoved, "@n[0] = { n; b };", "@q.k = { q; b };", "*@b = eat(b);", "l[eat(@b)] = { b; 1 };", "l[eat(@b)] = eat(b);", "n[eat(@b)] = b;")
	wantTaken(t, "n; n[0] = { n = [b, c]; give() };", "q; q.k = { q = q(); b }; q;", "b; *b = { b = give(); 2 }; b;", "b; l[eat(b)] = { b = give(); 1 };", "l[eat(b)] = *b;")
}

// TestLetsAndPatterns: their variables have a value behind them.
func TestLetsAndPatterns(t *testing.T) {
	wantTaken(t, "b; let b = give(); b;", "let b = b; let b = b; b;", "loop { let d = give(); d; }", "while t { let d = give(); d; if t { continue; } let d = give(); d; }", "loop { match e { E::A(d) => { d; }, E::B(k, d) => { d; k; k; }, E::N => {} } e = E::N; }",
		"loop { let d = give(); loop { d; break; } if t { break; } }", "let _ = b; let _ = c;", "let mut d = give(); loop { d; let f = give(); d = f; }")
	wantWrong(t, api.ErrMoved, "let b = b; b; @b;", "match e { E::A(d) => { d; @d; }, _ => {} }", "match e { E::B(_, d) => { d; *@d; }, _ => {} }", "let d = b; loop { @d; let d = give(); d; }", "loop { let d = give(); loop { @d; } }", "let _ = b; @b;", "match e { E::A(d) => { loop { @d; } }, _ => {} }")
}
