package frame_test

import (
	"fmt"
	"strings"
	"testing"

	"ferrule/api"
	"ferrule/build"
	"ferrule/drops"
	"ferrule/fold"
	"ferrule/frame"
	"ferrule/low"
	"ferrule/lower"
	"ferrule/parse"
	"ferrule/typeck"
)

// P26.3, P26.4 of programs, behind build, drops, fold and lower.

// lowered is a program's functions in the low form; none, if a frame is too big.
func lowered(t *testing.T, text string) []api.LowFunc {
	t.Helper()
	items, at, e := parse.Parse(text)
	if e == api.OK {
		items, at, e = typeck.Check(items)
	}
	if e != api.OK {
		t.Fatalf("not typed, %d at %d: %.60s", int(e), at, text[max(0, at-20):])
	}
	l, e := build.Build(items)
	if e == api.OK {
		l, e = drops.Elaborate(items, l)
	}
	if e == api.OK {
		l, e = fold.Fold(l)
	}
	if e != api.OK {
		t.Fatal("not built:", int(e))
	}
	out, e := lower.Lower(l)
	if e != api.OK && e != api.ErrFrame {
		t.Fatal("not lowered:", int(e))
	}
	return out
}

// holdProgram holds a program's functions against their lines. It tells the Kind that they come to; 0, if a frame is too big.
func holdProgram(t *testing.T, text string, fuel int, inputs ...[]int) (kinds []int) {
	t.Helper()
	l := lowered(t, text)
	if _, e := frame.Lines(l); len(l) == 0 || e == api.ErrFrame {
		return nil
	}
	for _, input := range inputs {
		kinds = append(kinds, holdWith(t, text, fuel, input, l...).Kind)
	}
	return kinds
}

// items are what the bodies speak of.
const items = ` struct P { a: i32, b: u8 } struct Q { p: P, k: Box<i32>, l: [i32; 3] } enum E { N, A(i32), B(Box<i32>, i32) } enum L { N, C(i32, Box<L>) } const K: i32 = 7; struct B { a: [i32; 40], n: u8 }
fn box(n: i32) -> Box<i32> { Box::new(n) } fn drop(b: Box<i32>) {} fn q() -> Q { Q { p: P { a: 1, b: 2 }, k: box(3), l: [4, 5, 6] } } fn add(x: &mut i32, y: &i32) -> i32 { *x = *x + *y; *x } fn swap(a: &mut P, b: &mut P) { let c = *a; *a = *b; *b = c; }
fn all(l: L) -> i32 { match l { L::N => 0, L::C(n, b) => n + all(unbox(b)) } } fn fib(n: i32) -> i32 { if n < 2 { n } else { fib(n - 1) + fib(n - 2) } } fn both(p: P, a: [i32; 3], n: u16) -> P { P { a: p.a + a[n], b: p.b } } fn ever(n: i32) -> i32 { ever(n + 1) + 1 }
fn fill(b: &mut B, n: i32) { let mut i = 0; while i < 40 { b.a[i] = i * n; i = i + 1; } } fn sum(a: &[i32; 40]) -> i32 { let mut i = 0; let mut s = 0; while i < 40 { s = s + a[i]; i = i + 1; } s }
fn eight(a: i32, b: i32, c: i32, d: i32, e: i32, f: i32, g: i32, h: i32) -> [i32; 8] { [h, g, f, e, d, c, b, a] } fn list(n: i32) -> L { let mut l = L::N; let mut i = 0; while i < n { l = L::C(i, Box::new(l)); i = i + 1; } l }
`

func bodies() []string {
	return []string{
		"", "print(1);", "print(6 * 7);", "let x = read(); print(x + 5); print(x & 7); print(100 / x); print(7 - x); print((x < 4) as i32);",
		"let mut x = 1; let y = 5; print(add(&mut x, &y)); print(x); let z = Box::new(K); add(&mut x, &*z); print(x);",
		"let mut p = P { a: 1, b: 2 }; let mut r = P { b: 4, a: 3 }; swap(&mut p, &mut r); print(p.a); print(r.b);",
		"let a = read(); let b = read(); let mut i = 0; while i < a { let mut j = 0; while j < b { print(i * b + j); j = j + 1; } i = i + fib(i) + 1; } print(a - b);",
		"let b = box(1); if read() == 3 { drop(b); } else { print(*b); } print(2);",
		"let x = q(); print(x.l[2]); let y = x; print(y.p.b); let mut z = q(); let old = replace(&mut z.k, box(8)); print(*old); print(*z.k);",
		"match E::B(box(4), 5) { E::B(b, n) => { print(*b + n); }, E::A(n) => print(n), E::N => {} } match read() { 1 => print(1), 3 => print(33), _ => print(0) }",
		"print(all(list(9))); print(fib(10)); print(fib(read() & 7));",
		"let r = both(P { a: 1, b: 2 }, [10, 20, 30], 1); print(r.a); let mut b = B { a: [0; 40], n: 1 }; fill(&mut b, 3); print(sum(&b.a)); print(ever(1));",
		"let mut i = 0; loop { i = i + 1; if i == 5 { break; } if i % 2 == 0 { continue; } let mut j = i; add(&mut j, &i); print(j); }",
		"let mut a = [[1, 2], [3, 4]]; a[1][0] = 7; let b = a; a[0] = b[1]; let mut i = 0; while i < 2 { print(a[i][1 - i]); i = i + 1; }",
		"loop { print(read()); }", "loop {}", "let l = list(read() & 127); print(2);", "let l = list(59); print(all(l));", "print(1); let l = list(70); print(2);", "let l = list(30); print(3); let m = list(read() + 30); print(4);", "let l = list(45); print(all(l));",
		"let r = eight(1, 2, 3, 4, 5, 6, 7, 8); let s = eight(r[1], r[0], r[3], r[2], r[5], r[4], r[7], r[6]); let mut i = 0; while i < 8 { print(s[i]); i = i + 1; }",
		"let mut i = 0i32; loop { let b = Box::new([i; 60]); print(b[i]); i = i + 1; }", "let x = 255u8; let y = x + (read() as u8); print(y);", "let mut m = 1; loop { print(m); m = m * 3; }",
		"let x = 4000000000u32; print(x); print(x / 7); print(x >> 3); print((x as i32) >> 3); let n = -7; print(n / 2); print(n % 4); print(n as u16); print(n as u8);",
	}
}

func TestPrograms(t *testing.T) {
	t.Parallel()
	ended := map[int]int{}
	inputs := [][]int{nil, {3, 2, 1}, {1 << 31, -5, 0, 9}, {50, 1, 7}, {1, 100, 2, 2, 2}, {-1 << 63, 1<<63 - 1, 6}}
	for _, body := range bodies() {
		for _, kind := range holdProgram(t, "fn main() { "+body+" }"+items, 50_000, inputs...) {
			ended[kind]++
		}
	}
	for _, kind := range []int{api.OutExit, api.OutFuel, api.OutDepth, api.OutMemory} {
		if ended[kind] < 2 {
			t.Errorf("%d of them ended with %d: %v", ended[kind], kind, ended)
		}
	}
}

// TestExample is the chapter's own.
func TestExample(t *testing.T) {
	comes(t, "a main that prints 1", exit(1), starts(1, 0, li(0, 1), show(0)))
	comes(t, "a program that does", exit(1), lowered(t, "fn main() { print(1); }")...)
}

// TestManyAtOnce: programs that need very many numbers at one time, without a call and with one.
func TestManyAtOnce(t *testing.T) {
	for many := 1; many <= 40; many++ {
		reads, call, prints := "", "", ""
		for k := range many {
			name := "x" + strings.Repeat("y", k%30) + strings.Repeat("z", k/30)
			reads += "let " + name + " = read(); "
			prints += "print(" + name + "); "
		}
		for range 2 {
			text := "fn f() -> i32 { read() } fn main() { " + reads + call + prints + "}" + items
			if holdProgram(t, text, plenty, []int{1, 2, 3, 4, 5, 6, 7}) == nil {
				t.Fatal(many, "no frame")
			}
			call = "print(f()); "
		}
	}
}

// Programs whose runs come to the ends of what may be: as many calls under way, a list let go by as many quiet ones.
func TestProgramsWithManyCalls(t *testing.T) {
	for n := range 60 {
		holdProgram(t, "fn f(n: i32) -> i32 { if n == 0 { 0 } else { f(n - 1) + 1 } } fn main() { print(f(read())); print(f(3)); print(f(read())); }", plenty, []int{n, n / 2}, []int{n / 2, n})
		holdProgram(t, fmt.Sprintf("fn main() { let l = list(%d); print(1); { let m = list(%d); print(2); } print(3); }", n, 60-n)+items, plenty, nil)
	}
}

func TestProgramsByChance(t *testing.T) {
	t.Parallel()
	ended := map[int]int{}
	for seed := range int64(120) {
		for _, kind := range holdProgram(t, program(seed, 6+int(seed)%9), 15_000, nil, []int{1, 2, 3}, []int{5, 1 << 20, -3, 0, 0, 7, 1, 1, 1, 900, -20, 4}) {
			ended[kind]++
		}
	}
	if ended[api.OutExit] < 200 {
		t.Errorf("only so many ended: %v", ended)
	}
	t.Log(ended)
}

// What lower tells never needs registers or words that were not set: so their calls begin in few steps.
func TestStepsOfPrograms(t *testing.T) {
	text := "fn f(a: i32) -> i32 { a } fn main() { let mut i = 0; while i < 1000 { i = f(i) + 1; } print(i); }"
	l := lowered(t, text)
	_, n := low.Run(l, nil, plenty)
	_, steps := begin(t, text, nil, l).Run(plenty)
	if steps > 8*n {
		t.Errorf("%d steps where the low form needs %d", steps, n)
	}
}
