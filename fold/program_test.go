package fold_test

import (
	"testing"

	"ferrule/api"
	"ferrule/model"
)

// P15.2 to P15.4 of programs of the whole language, behind build and drops: their runs come to what the model's do.

// items are what the bodies of the tests speak of.
const items = ` struct P { a: i32, b: u8 } struct Q { p: P, k: Box<i32>, l: [i32; 3] } enum E { N, A(i32), B(Box<i32>, i32), C(Box<i32>, Box<i32>) } enum L { N, C(Box<L>) } enum T { Leaf, Two(Box<T>, i32, Box<T>) } const K: i32 = 7;
fn yes() -> bool { true } fn no() -> bool { false } fn box(n: i32) -> Box<i32> { Box::new(n) } fn drop(b: Box<i32>) {} fn q() -> Q { Q { p: P { a: 1, b: 2 }, k: box(3), l: [4, 5, 6] } } fn add(x: &mut i32, y: &i32) -> i32 { *x = *x + *y; *x } fn swap(a: &mut P, b: &mut P) { let c = *a; *a = *b; *b = c; }
fn tree(n: i32) -> T { if n < 1 { T::Leaf } else { T::Two(Box::new(tree(n - 1)), n, Box::new(tree(n - 2))) } } fn sum(t: T) -> i32 { match t { T::Leaf => 0, T::Two(a, n, b) => sum(unbox(a)) + n + sum(unbox(b)) } } fn fib(n: i32) -> i32 { if n < 2 { n } else { fib(n - 1) + fib(n - 2) } } fn deep(n: i32) -> i32 { if n == 0 { 0 } else { deep(n - 1) + 1 } }
`

func inMain(body string) string { return "fn main() { " + body + " }" + items }

// wantRun asks what a program comes to, as a tree and folded, with an input.
func wantRun(t *testing.T, text string, input []int, kind, code int, print ...int) {
	t.Helper()
	typed, l := taken(t, text)
	got := runs(t, typed, l, folded(t, l), input, plenty, some)
	if want, _ := model.Run(typed, input, plenty); !alike(got, want) {
		t.Errorf("%.400s: %v, but the model %v", text, got, want)
	}
	if want := (api.Outcome{Kind: kind, Code: code, Print: print}); !alike(got, want) {
		t.Errorf("%.400s: %v, not %v", text, got, want)
	}
}

func TestPrograms(t *testing.T) {
	for body, want := range map[string][]int{
		"": nil, "print(1 + 2);": {3}, "print(6 * K); print(-K / 2); print(K % 4); print(!K); print(K << 3); print(-1 >> 1); print(K ^ 5); print(K & 5 | 8);": {42, -3, 3, -8, 56, -1, 2, 13},
		"print(200u8 as i8); print(-1 as u32); print(65536 + 3 as u16 as i32); print(true as u8);":                                                             {-56, 4294967295, 65539, 1},
		"let x = 3; if x > 2 { print(1); } else { print(2); } if x == 2 { print(3); }":                                                                         {1},
		"let x = 5; let y = if x < 3 { x } else if x < 5 { 10 } else { 20 }; print(y);":                                                                        {20},
		"let mut i = 0; let mut s = 0; while i < 10 { i = i + 1; if i % 2 == 0 { continue; } if i > 7 { break; } s = s + i; } print(s); print(i);":             {16, 9},
		"let mut i = 0; loop { i = i + 1; if i == 5 { break; } } print(i); while false { print(0); } loop { break; }":                                          {5},
		"print((yes() && no()) as i32); print((yes() || no()) as i32); print((no() && { print(9); true }) as i32); if true && !false { print(4); }":            {0, 1, 0, 4},
		"let a = [1, 2, 3]; print(a[1]); let mut i = 0; while i < 3 { print(a[i]); i = i + 1; }":                                                               {2, 1, 2, 3},
		"let mut a = [[1, 2], [3, 4]]; a[1][0] = 7; let b = a; a[0] = b[1]; print(a[0][0]); print(b[0][1]); let c = [K; 20]; print(c[19]);":                    {7, 2, 7},
		"let mut p = P { a: 1, b: 2 }; let mut r = P { b: 4, a: 3 }; swap(&mut p, &mut r); print(p.a); print(r.b); p.a = p.a * 2; print(p.a); print(r.a);":     {3, 2, 6, 1},
		"let mut x = 1; let y = 5; print(add(&mut x, &y)); print(x); let z = Box::new(K); add(&mut x, &*z); print(x);":                                         {6, 6, 13},
		"let b = box(7); print(*b); let c = b; print(*c + 1); let mut d = Box::new(c); **d = 9; print(**d); print(unbox(unbox(d)));":                           {7, 8, 9, 9},
		"let b = box(1); if read() == 1 { drop(b); } else { print(*b); } print(2);":                                                                            {1, 2},
		"let x = q(); print(x.l[2]); print(*x.k); let y = x; print(y.p.b); let mut z = q(); let old = replace(&mut z.k, box(8)); print(*old); print(*z.k);":    {6, 3, 2, 3, 8},
		"match 3 { 1 => print(1), 3 => print(33), _ => print(0) } match E::B(box(4), 5) { E::B(b, n) => { print(*b + n); }, E::C(_, _) => {}, _ => print(0) }": {33, 9},
		"let e = E::A(6); let n = match e { E::N => 1, E::A(n) => n, E::B(_, n) => n, E::C(a, b) => *a + *b }; print(n);":                                      {6},
		"let t = tree(6); print(sum(t)); print(fib(10)); print(deep(40));":                                                                                     {46, 55, 40},
		"let mut l = L::N; let mut i = 0; while i < 40 { l = L::C(Box::new(l)); i = i + 1; } l = L::N; print(i);":                                              {40},
		"let u = (); let f = [(), ()]; f[1]; { let x = 1; print(x); } let x = { let y = 2; y + 1 }; print(x);":                                                 {1, 3},
		"print(read() + read()); print(read() as u8);":                                                                                                         {0, 0},
	} {
		wantRun(t, inMain(body), nil, api.OutExit, 0, want...)
	}
	wantRun(t, inMain("let mut n = read(); while n != 0 { if n < 0 { print(-n); } else { print(n * 2); } n = read(); }"), []int{3, -4, 1 << 32, 9}, api.OutExit, 0, 6, 4)
	wantRun(t, inMain("let b = box(1); if read() == 1 { drop(b); } else { print(*b); } print(2);"), []int{1}, api.OutExit, 0, 2)
}

// Runs that end otherwise do so still, where it is known ahead, too.
func TestProgramsThatEnd(t *testing.T) {
	for body, want := range map[string][]int{
		"print(1); print(255u8 + 1); print(2);":                                  {1},
		"let x = 255u8; let y = 1u8; print(3); print(x + y);":                    {3},
		"let x = 0; print(5 / x);":                                               nil,
		"let x = 0; print(5 % x);":                                               nil,
		"let x = -2147483648; print(4); print(x / -1);":                          {4},
		"let x = 40; print(1 << x);":                                             nil,
		"let a = [1, 2]; let i = 2; print(a[i]);":                                nil,
		"let a = [1, 2]; print(a[0]); let i = -1; print(a[i]);":                  {1},
		"let mut i = 250u8; while true { print(i); i = i + 1; }":                 {250, 251, 252, 253, 254, 255},
		"let b = box(1); print(*b); let c = box(2147483647); print(*b + *c);":    {1},
		"let x = -128i8; print(-x);":                                             nil,
		"let x = 2147483647; if x + 1 > 0 { print(1); } else { print(2); }":      nil,
		"if read() == 0 { let z = 0; print(1 / z); } else { print(1); }":         nil,
		"let mut i = 3; while i >= 0 { print(12 / i); i = i - 1; }":              {4, 6, 12},
		"print(1); let x = 300; if x > 255 { print(256 * 256 * 256 * x / 1); } ": {1},
	} {
		wantRun(t, inMain(body), nil, api.OutExit, 101, want...)
	}
	wantRun(t, inMain("print(deep(46)); print(deep(47));"), nil, api.OutDepth, 0, 46)
	full := []int{}
	for range 64 {
		full = append(full, 1)
	}
	wantRun(t, inMain("let mut l = L::N; loop { l = L::C(Box::new(l)); print(1); }"), nil, api.OutMemory, 0, full...)
}

// Runs without an end: with as much fuel at least as many numbers are printed.
func TestProgramsWithoutEnd(t *testing.T) {
	for _, body := range []string{"loop {}", "print(1); loop {}", "loop { print(1); }", "let mut i = 0; loop { i = (i + 1) % 7; if i == 3 { continue; } print(i); let b = box(i); }", "while true {}", "let x = 1; while x < 2 { print(x); }", "loop { if yes() { continue; } print(1); }"} {
		typed, l := taken(t, inMain(body))
		if got := runs(t, typed, l, folded(t, l), nil, 500, every); got.Kind != api.OutFuel {
			t.Errorf("%s: %v", body, got)
		}
	}
}

// A program is folded as a whole: its functions, and those that let values go, by their names and in their order.
func TestProgramsFunctions(t *testing.T) {
	_, l := taken(t, inMain("let x = Box::new(q()); let t = tree(3); if yes() { t; } print(5);"))
	out := folded(t, l)
	quiet := 0
	for k := range out {
		if out[k].Name != l[k].Name {
			t.Errorf("%s, not %s", out[k].Name, l[k].Name)
		}
		if out[k].Quiet {
			quiet++
		}
	}
	if quiet == 0 {
		t.Error("nothing lets values go")
	}
	_, l = taken(t, "fn main() { print(1 + 2); }")
	if got := told(folded(t, l)[0]); got != "print 3; return" {
		t.Error(got)
	}
	_, l = taken(t, "fn main() { let x = 3; if x * 2 > 5 { print(x); } else { print(0); } }")
	if got := told(folded(t, l)[0]); got != "print 3; return" {
		t.Error(got)
	}
}
