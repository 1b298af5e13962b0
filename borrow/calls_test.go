package borrow

import (
	"testing"

	"ferrule/api"
)

// TestTwoBorrows: those of one call, of which one is alone, do not overlap.
func TestTwoBorrows(t *testing.T) {
	wantTaken(t, "rr(&x, &x);", "rr(&x, &y);", "mm(&mut x, &mut y);", "mr(&mut x, &y); rm(&x, &mut y);", "mm(&mut p.a, &mut p.b);", "mr(&mut p.a, &p.b);", "rr(&p.a, &p.a);", "mm(&mut l[0], &mut l[1]);", "mm(&mut l[ONE], &mut l[0]);", "rr(&l[x], &l[x]); rr(&l[0], &l[x]);", "mm(&mut q.p.a, &mut q.p.b);", "mm(&mut q.p.a, &mut q.l[0]);", "mm(&mut *q.k, &mut q.p.a);",
		"mm(&mut *q.n[0], &mut *q.n[1]);", "qq(&q, &q);", "qr(&q, &q.p.a); qr(&q, &*q.k); qr(&q, &q.l[x]);", "mm(&mut *b, &mut *c); mr(&mut *b, &*c); rr(&*b, &*b);", "mmm(&mut p.a, &mut x, &mut p.b);", "mrr(&mut x, &y, &y);", "set(&mut x); set(&mut x); see(&x);", "mm(&mut **bb, &mut *b);")
	wantWrong(t, api.ErrShared, "mm(&mut x, @&mut x);", "mr(&mut x, @&x);", "rm(&x, @&mut x);", "mm(&mut p.a, @&mut p.a);", "mr(&mut l[0], @&l[0]);", "mm(&mut l[1], @&mut l[ONE]);", "mm(&mut l[x], @&mut l[0]);", "mm(&mut l[0], @&mut l[x]);", "mm(&mut l[x], @&mut l[y]);", "mm(&mut l[x], @&mut l[x]);", "mm(&mut l[0u8], @&mut l[0]);", "mm(&mut l[x + 1], @&mut l[x]);",
		"qs(&q, @&mut q.p.a);", "qs(&q, @&mut *q.k);", "qs(&q, @&mut q.l[x]);", "qm(&q, @&mut q);", "mq(&mut q, @&q);", "ms(&mut q, @&mut q.l[1]);", "ms(&mut q, @&mut *q.n[0]);", "rm(&*b, @&mut *b);", "mm(&mut **bb, @&mut **bb);", "mm(&mut *q.n[0], @&mut *q.n[x]);", "lr(&l, @&mut l[0]);", "lr(&q.l, @&mut q.l[1]);",
		"mmm(&mut x, &mut y, @&mut x);", "mmm(&mut x, @&mut x, &mut x);", "mmm(&mut x, &mut y, @&mut y);", "mrr(&mut x, &y, @&x);", "mrr(&mut x, @&x, &x);", "mmm(&mut p.a, &mut p.b, @&mut p.b);")
}

// TestHandedOn: a variable that is a borrow borrows what it points to.
func TestHandedOn(t *testing.T) {
	params := "r: &mut i32, s: &i32, u: &mut Q, v: &Q, w: &mut i32, k: &i32"
	wantIn(t, api.OK, params, "mr(r, s);", "mm(r, w);", "rr(s, s);", "rr(s, k); rr(s, &*s); rr(&*s, s);", "mq(u, v);", "qq(v, v);", "qr(v, &v.p.a); qr(v, &*v.k); qr(v, s);", "mm(r, &mut *w); mm(&mut *r, &mut *w);", "ms(u, r);", "mm(&mut u.p.a, &mut u.p.b);", "rr(&*r, &*r);", "rr(&u.p.a, &u.p.a);", "set(r); set(r); set(&mut *r); see(s);", "mi(r, *s);", "mi(r, see(s));", "ri(s, *s);", "qi(v, v.p.a + looked(v));", "replace(r, *s); replace(r, *w); replace(u, q());", "mi(r, { 1 });")
	wantIn(t, api.ErrShared, params, "mm(r, @r);", "mm(r, @&mut *r);", "mm(&mut *r, @r);", "mr(r, @&*r);", "rm(&*r, @r);", "ms(u, @&mut u.p.a);", "qs(&*u, @&mut u.l[0]);", "mq(u, @&*u);", "qm(&*u, @u);", "mmm(r, w, @r);", "mmm(r, w, @&mut *w);", "mi(r, @*r);", "mi(r, @set(r));", "mi(r, @see(&*r));", "ri(&*r, @set(r));", "ri(&*r, @set(&mut *r));", "ri(&*r, @{ *r = 1; 2 });", "mo(u, u.p@.a);", "replace(r, @*r);", "replace(r, @set(r));", "replace(&mut u.p.a, u.p@.b);", "qi(&*u, @changed(u));")
	// Of a variable that is a &mut each use changes what it points to.
	wantIn(t, api.ErrShared, params, "ri(&*r, @*r);", "qi(&*u, u.p@.a);", "ri(&u.p.a, u.p@.b);", "ri(&*r, @see(&*r));", "print(u.l[u.l@[0]]);")
	wantIn(t, api.OK, params, "print(v.l[v.l[0]]);", "ri(&v.p.a, v.p.b);")
}

// TestBehindALoan: an argument that is no borrow, behind one that is.
func TestBehindALoan(t *testing.T) {
	// One that is alone: the variable is not in it.
	wantTaken(t, "mi(&mut x, y);", "mi(&mut x, y + see(&y));", "mi(&mut x, { let d = y; d });", "mi(&mut x, { let x = y; x });", "mi(&mut p.a, x);", "mi(&mut l[x], x);", "mi(&mut *b, *c);", "mi(&mut x, eat(b));", "mi(&mut x, mi(&mut y, 1));", "mo(&mut q, p.a);", "mi(&mut x, match e { E::B(x, _) => x, _ => 1 });")
	wantWrong(t, api.ErrShared, "mi(&mut x, @x);", "mi(&mut x, x @+ 1);", "mi(&mut x, y @+ -x);", "mi(&mut x, @{ x });", "mi(&mut x, @see(&x));", "mi(&mut x, @if t { x } else { y });", "mi(&mut x, @if t { y } else { x });", "mi(&mut x, @if x == 1 { y } else { y });", "mi(&mut x, @match x { _ => y });", "mi(&mut x, @match y { 1 => x, _ => y });", "mi(&mut x, l@[x]);", "mi(&mut x, @{ l[x] = 1; 1 });", "mi(&mut x, @{ x = 1; 1 });", "mi(&mut x, @{ while x < 1 {} 1 });", "mi(&mut x, @{ loop { x; } });", "mi(&mut x, @{ return; x });", "mi(&mut x, @mi(&mut x, 1));", "mi(&mut x, @mi(&mut y, x));", "mi(&mut p.a, p@.b);", "mi(&mut p.a, @{ let d = p; 1 });", "mi(&mut l[0], l@[1]);", "mi(&mut *b, @*b);", "mi(&mut **bb, @seen(&*bb));", "mo(&mut q, q.p@.a);", "mo(&mut q, @looked(&q));", "mi(&mut x, @{ let d = [1, x]; d[0] });", "mi(&mut x, x @as i32);", "mi(&mut x, @-x);", "mi(&mut x, @!x);", "mi(&mut x, @{ print(x); 1 });", "mi(&mut x, @unbox(Box::new(x)));", "mi(&mut x, @{ let d = P { a: x, b: 1 }; 1 });", "mi(&mut x, @{ let d = [x; 2]; 1 });", "mi(&mut x, @{ let d = E::B(x, b); 1 });", "mi(&mut x, @{ return { print(x); }; });")
	// One that is not: the variable is not changed in it.
	wantTaken(t, "ri(&x, x);", "ri(&x, x + x * see(&x));", "ri(&x, { y = x; 1 });", "ri(&x, { l[x] = x; 1 });", "ri(&x, set(&mut y));", "ri(&x, mi(&mut y, x));", "bi(&b, *b);", "bi(&b, see(&*b) + seen(&b));", "bi(&b, eat(c));", "qi(&q, q.p.a + *q.k + q.l[x]);", "ri(&*b, *b);", "ri(&p.a, { let d = p; d.b });", "qb(&q, b);", "bb(&b, c);", "ri(&x, { let mut x = 2; x = 3; set(&mut x) });", "bi(&b, { let b = give(); eat(b) });")
	wantWrong(t, api.ErrShared, "ri(&x, @{ x = 1; 2 });", "ri(&x, @set(&mut x));", "ri(&x, @{ if t { x = 1; } 2 });", "ri(&p.a, @{ p.b = 1; 2 });", "ri(&p.a, @set(&mut p.b));", "ri(&l[0], @{ l[1] = 1; 2 });", "ri(&*b, @{ *b = 1; 2 });", "ri(&*b, @{ b = give(); 2 });", "ri(&*b, @set(&mut *b));", "bb(&b, @b);", "bi(&b, @eat(b));", "bi(&b, @{ b; 1 });", "bi(&b, @{ let d = b; 1 });", "bi(&b, @{ [b]; 1 });", "bi(&b, @{ E::A(b); 1 });", "bi(&b, @swap(&mut b));", "bi(&b, @{ replace(&mut b, c); 1 });", "bi(&b, @{ return { b; }; });", "ri(&*b, @eat(b));", "qi(&q, @{ q; 1 });", "qi(&q, @{ q.k = b; 1 });", "qi(&q, @{ *q.k = 1; 1 });", "qi(&q, @set(&mut q.l[x]));", "bi(&n[0], @{ n; 1 });", "bi(&n[0], @swap(&mut n[1]));", "bi(&q.k, @{ let d = [q]; 1 });", "bi(&b, @{ match E::A(b) { _ => 1 } });", "bi(&b, eat(b) @+ 1);", "bi(&b, @if ask(b) { 1 } else { 2 });", "bi(&b, @{ loop { b; break; } 1 });", "ri(&x, y @+ { x = 2; 1 });", "bi(&b, l@[eat(b)]);", "rii(&x, x, @{ x = 1; 2 });", "rii(&x, @{ x = 1; 2 }, { x = 1; 2 });", "iri(x, &x, @{ x = 1; 2 });", "bq(&b, @Q { p: p, k: b, l: l, n: n });")
	// What stands ahead of a borrow is no matter.
	wantTaken(t, "ir(x, &x);", "im(x, &mut x);", "im({ x = 1; 2 }, &mut x);", "im(set(&mut x), &mut x);", "iri(set(&mut x), &x, x);", "ir({ x = 2; 1 }, &x);")
	wantWrong(t, api.ErrMoved, "ir(eat(b), &*@b);", "im(eat(b), &mut *@b);")
}

// TestReplace: its two arguments are a call's, too.
func TestReplace(t *testing.T) {
	wantTaken(t, "replace(&mut x, y);", "replace(&mut b, c); b;", "replace(&mut q.k, b);", "replace(&mut p.a, x);", "replace(&mut n[0], replace(&mut b, c));", "replace(&mut x, 1) + replace(&mut x, 2);", "replace(&mut *b, eat(c));")
	wantWrong(t, api.ErrShared, "replace(&mut x, @x);", "replace(&mut x, x @+ 1);", "replace(&mut b, @b);", "replace(&mut p.a, p@.b);", "replace(&mut l[0], l@[1]);", "replace(&mut x, @replace(&mut x, 1));", "replace(&mut q.n[0], @replace(&mut q.k, b));", "replace(&mut *b, @*b);", "replace(&mut b, @{ b = c; give() });", "replace(&mut q, @{ let d = q; d });")
	wantWrong(t, api.ErrMoved, "b; replace(&mut @b, c);", "replace(&mut b, c); @c;", "q; replace(&mut @q.k, b);")
	wantWrong(t, api.ErrMove, "replace(&mut b, q@.k);", "replace(&mut q.k, q@.k);", "replace(&mut b, @*bb);")
}

// TestCallsWithinCalls: each has its own arguments; what one in another's argument borrows counts there as something in it.
func TestCallsWithinCalls(t *testing.T) {
	wantTaken(t, "mi(&mut x, mi(&mut y, see(&p.a)));", "ri(&x, see(&x));", "rii(&x, see(&x), see(&x));", "ir(set(&mut x), &x);", "print(set(&mut x) + set(&mut x));", "mi(&mut y, set(&mut x) + set(&mut x));", "eat(Box::new(set(&mut x) + mi(&mut x, y)));", "see(&l[see(&x)]);", "set(&mut l[set(&mut x)]);")
	wantWrong(t, api.ErrShared, "mi(&mut y, mi(&mut x, @x));", "mi(&mut x, @see(&x));", "mi(&mut x, @set(&mut x));", "mi(&mut x, mi(&mut x, @x));", "ri(&x, @mi(&mut x, 1));", "ri(&x, @mi(&mut y, set(&mut x)));", "eat(Box::new(mi(&mut x, @x)));", "print(mi(&mut x, @x));", "mi(&mut l[mi(&mut x, @x)], 1);", "ri(&x, @see(&l[set(&mut x)]));", "mi(&mut x, @see(&l[x]));")
}

// TestIndices: the second kids of indices are values, from the root outwards, behind the root; none of them changes the root.
func TestIndices(t *testing.T) {
	grid := "let mut g = [[1, 2], [3, 4]]; let mut h = [[give()], [give()]]; "
	wantTaken(t, grid+"g[x][y]; g[l[0]][l[x]]; g[g[0][1]][g[1][0]];", grid+"g[eat(b)][eat(c)];", grid+"g[set(&mut x)][x] = x;", grid+"l[set(&mut x)] = 1; see(&l[{ x = 2; x }]);", "l[l[l[0]]];", "l[p.a] = l[see(&l[0])];", grid+"g[eat(b)][{ b = give(); *b }];", "l[{ let mut l = [1, 2]; l = l; l[0] }];", "q.l[*q.k] = *q.n[q.l[0]];", "see(&q.l[looked(&q)]);")
	wantWrong(t, api.ErrMoved, grid+"g[eat(b)][eat(@b)];", grid+"g[eat(b)][*@b];", grid+"g[eat(b)][x] = { c; 1 }; @b;", grid+"see(&g[eat(b)][eat(@b)]);", grid+"set(&mut g[eat(b)][eat(@b)]);", grid+"*h[eat(b)][eat(@b)];", grid+"g[eat(@b)][eat(c)] = { b; 1 };", grid+"g[x][eat(@b)] = eat(b);", "n; *@n[eat(b)];", "n; b; *@n[eat(b)];", "b; *n[eat(@b)];", grid+"h; *@h[{ h = [[b], [c]]; 0 }][0];", "eat(b); l[*@b];")
	wantWrong(t, api.ErrShared, "l[@{ l = [1, 2]; 0 }];", "l[@{ l[0] = 1; 0 }];", "l[@set(&mut l[0])];", "l[@{ l = l; 1 }] = 2;", "see(&l[@set(&mut l[0])]);", "set(&mut l[@{ l = [1, 2]; 0 }]);", "*n[@{ n; 0 }];", "*n[@{ let d = n; 0 }];", "n[@{ n; 0 }] = b;", "*n[@swap(&mut n[1])];", "q.l[@changed(&mut q)];", "q.l[@{ q.p.a = 1; 0 }];", "q.l[@set(&mut *q.k)];", "q.l[@{ q; 0 }];", "q.l[@{ replace(&mut q.k, b); 0 }];", "*q.n[@{ *q.n[0] = 1; 0 }];", "l[x @+ { l[0] = 1; 0 }];", "l[@{ return; l = [1, 2]; 0 }];", "replace(&mut l[@set(&mut l[1])], 1);", "let d = Box::new([1, 2]); (*d)[@{ d; 0 }];", "let d = Box::new([1, 2]); d[@{ d; 0 }];",
		grid+"g[@{ g[0][0] = 1; 0 }][{ g[0][0] = 1; 0 }];", grid+"g[0][@{ g[0][0] = 1; 0 }];", grid+"g[x][@set(&mut g[0][1])] = 1;", grid+"g[g[x][@{ g[0] = l; 1 }]][{ g[0] = l; 1 }];", grid+"g[@{ g[x][0] = 1; x }][x];")
	// What is assigned is no borrow yet, while its value is run.
	wantTaken(t, "l[0] = { l = [1, 2]; 3 };", "l[x] = set(&mut l[1]);", "n[0] = { n = [b, c]; give() };")
}

// TestWhichIsFirst: of several errors the one that is come to first, as the trees are run; and of one tree the one that the chapter names first.
func TestWhichIsFirst(t *testing.T) {
	wantWrong(t, api.ErrMove, "b; q@.k; b;", "q@.k; *bb;", "q; q@.k;", "n; n@[eat(b)]; b;", "b; n@[eat(b)];", "bb; @*bb;", "q@.n; b; b;", "mi(&mut x, eat(q@.k) + x);", "n@[{ n; 0 }];", "mi(&mut x, { q@.k; x });", "q.n@[{ b; b; 0 }];", "eat(q@.k) + mi(&mut x, x);", "b; c = q@.k; b;")
	wantWrong(t, api.ErrMoved, "b; @b; q.k;", "b; eat(@b) + mi(&mut x, x);", "b; mi(&mut x, x + *@b);", "b; mi(&mut x, { @b; x });", "n; *@n[{ n; 0 }];", "l[{ b; @b; l = [1, 2]; 0 }];", "b; bb(&@b, b);", "b; bi(&c, eat(@b) + eat(c));", "b; mmm(&mut x, &mut x, &mut *@b);", "b; if *@b == 1 { q.k; }", "b; *@b = 1; q.k;", "q; @q.k = { l[0] = 1; b };", "b; l[eat(@b)] = mi(&mut y, x);", "three(b, give(), @b);", "b; set(&mut l[*@b]); mi(&mut x, x);")
	wantWrong(t, api.ErrShared, "mi(&mut x, @x); b; b;", "l[@{ l = [1, 2]; b; 0 }] + eat(b);", "bi(&b, @eat(b)); b;", "mi(&mut x, x @+ 1) + eat(q.k);", "bb(&b, @b); q.k;", "mmm(&mut x, @&mut x, &mut x); b; b;", "mm(&mut l[@{ l = [1, 2]; 0 }], &mut l[0]);", "l[@{ l = [1, 2]; b; 0 }] = { *b };", "l[0] = mi(&mut x, @x); b; b;", "rii(&x, @{ x = 1; 2 }, { x = 1; 2 });")
	// All arguments are gone through ahead of asking one against another.
	wantWrong(t, api.ErrMoved, "b; mmm(&mut x, &mut x, &mut *@b);", "c; bb(&b, @c);", "bi(&b, eat(b) + eat(@b));", "b; mrr(&mut x, &x, &*@b);")
	wantWrong(t, api.ErrMove, "rii(&x, { x = 1; 2 }, eat(q@.k));", "mr(&mut x, &l[eat(q@.k)]);")
}
