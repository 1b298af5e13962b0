package layout_test

import (
	"slices"
	"testing"

	"ferrule/api"
	"ferrule/borrow"
	"ferrule/build"
	"ferrule/drops"
	"ferrule/fold"
	"ferrule/layout"
	"ferrule/mir"
	"ferrule/model"
	"ferrule/parse"
	"ferrule/typeck"
)

// P16.1 and P16.3 of programs of the whole language, behind build, drops and fold.

// plenty is fuel enough for every run of these tests.
const plenty = 2_000_000

// taken is a typed program that nothing is against.
func taken(t *testing.T, text string) []api.Item {
	t.Helper()
	l, at, e := parse.Parse(text)
	if e == api.OK {
		l, at, e = typeck.Check(l)
	}
	if e == api.OK {
		at, e = borrow.Check(l)
	}
	if e != api.OK {
		t.Fatalf("not taken, %d at %d: %.60s", int(e), at, text[max(0, at-20):])
	}
	return l
}

// phases are a program's functions behind build, drops and fold.
func phases(t *testing.T, items []api.Item) (built, elaborated, folded []api.Mir) {
	t.Helper()
	built, e := build.Build(items)
	if e == api.OK {
		elaborated, e = drops.Elaborate(items, built)
	}
	if e == api.OK {
		folded, e = fold.Fold(elaborated)
	}
	if e != api.OK {
		t.Fatalf("not built: %d", int(e))
	}
	return built, elaborated, folded
}

// counts are how many locals lie in frames, how many do not, and how many runs were held against each other.
type counts struct{ in, out, runs, exits int }

// laid asks where the locals of a program lie, behind each phase, and runs it with its locals there.
func laid(t *testing.T, text string, input []int, seen *counts) {
	t.Helper()
	items := taken(t, text)
	built, elaborated, folded := phases(t, items)
	for _, f := range slices.Concat(built, elaborated, folded) {
		in, out := wantLaid(t, f.Name, f)
		seen.in, seen.out = seen.in+in, seen.out+out
	}
	var list []api.Mir
	for _, f := range folded {
		again, fits := framed(f)
		if !fits {
			return
		}
		list = append(list, again)
	}
	want, _ := model.Run(items, input, plenty)
	got, _ := mir.Run(items, list, input, plenty)
	if want.Kind == api.OutFuel || got.Kind != want.Kind || got.Code != want.Code || !slices.Equal(got.Print, want.Print) {
		t.Fatalf("%s: %v in frames, but the model %v", text, got, want)
	}
	seen.runs++
	if want.Kind == api.OutExit && want.Code == 0 {
		seen.exits++
	}
}

// items are what the bodies of the tests speak of.
const items = ` struct P { a: i32, b: u8 } struct Q { p: P, k: Box<i32>, l: [i32; 3] } enum E { N, A(i32), B(Box<i32>, i32) } enum L { N, C(i32, Box<L>) } const K: i32 = 7;
fn box(n: i32) -> Box<i32> { Box::new(n) } fn drop(b: Box<i32>) {} fn q() -> Q { Q { p: P { a: 1, b: 2 }, k: box(3), l: [4, 5, 6] } } fn add(x: &mut i32, y: &i32) -> i32 { *x = *x + *y; *x } fn swap(a: &mut P, b: &mut P) { let c = *a; *a = *b; *b = c; }
fn first(l: &[i32; 3], m: &mut L) -> i32 { *m = L::C(l[0], Box::new(L::N)); l[0] } fn all(l: L) -> i32 { match l { L::N => 0, L::C(n, b) => n + all(unbox(b)) } } fn fib(n: i32) -> i32 { if n < 2 { n } else { fib(n - 1) + fib(n - 2) } } fn both(p: P, a: [i32; 3], n: u16) -> P { P { a: p.a + a[n], b: p.b } }
`

func TestPrograms(t *testing.T) {
	seen := &counts{}
	bodies := []string{
		"", "print(6 * K); print(-K / 2); print(!K); print(K << 3); print(200u8 as i8); print(-1 as u32);",
		"let mut x = 1; let y = 5; print(add(&mut x, &y)); print(x); let z = Box::new(K); add(&mut x, &*z); print(x);",
		"let mut a = 1; let mut b = 2; let c = 3; let mut d = 4; add(&mut a, &c); add(&mut d, &b); b = b + 1; print(a); print(b); print(c); print(d);",
		"let mut p = P { a: 1, b: 2 }; let mut r = P { b: 4, a: 3 }; swap(&mut p, &mut r); print(p.a); print(r.b); p.a = p.a * 2; print(p.a);",
		"let mut a = [[1, 2], [3, 4]]; a[1][0] = 7; let b = a; a[0] = b[1]; let mut i = 0; while i < 2 { print(a[i][1 - i]); i = i + 1; } add(&mut a[1][1], &b[0][0]); print(a[1][1]);",
		"let b = box(7); let c = b; print(*c + 1); let mut d = Box::new(c); **d = 9; print(unbox(unbox(d)));",
		"let b = box(1); if read() == 3 { drop(b); } else { print(*b); } print(2);",
		"let x = q(); print(x.l[2]); let y = x; print(y.p.b); let mut z = q(); let old = replace(&mut z.k, box(8)); print(*old); print(*z.k);",
		"match E::B(box(4), 5) { E::B(b, n) => { print(*b + n); }, E::A(n) => print(n), E::N => {} } match read() { 1 => print(1), 3 => print(33), _ => print(0) }",
		"let mut l = L::N; let mut i = 0; while i < 9 { l = L::C(i, Box::new(l)); i = i + 1; } print(all(l)); l = L::N; let a = [4, 5, 6]; print(first(&a, &mut l)); print(all(l)); print(fib(10));",
		"let u = (); let f = [(), ()]; f[1]; { let x = 1; print(x); } let x = { let y = 2; y + 1 }; let r = both(P { a: 1, b: 2 }, [x, 20, 30], 1); print(r.a);",
		"let mut i = 0; loop { i = i + 1; if i == 5 { break; } if i % 2 == 0 { continue; } let mut j = i; add(&mut j, &i); print(j); }",
		"let a = [1, 2]; let i = 2; print(3); print(a[i]);", "let x = 255u8; print(x + (read() as u8));",
	}
	for _, body := range bodies {
		laid(t, "fn main() { "+body+" }"+items, []int{3, 1, 2}, seen)
	}
	if seen.in < 50 || seen.out < 50 || seen.runs != len(bodies) || seen.exits < len(bodies)-2 {
		t.Errorf("%+v", *seen)
	}
}

func TestProgramsByChance(t *testing.T) {
	seen := &counts{}
	for seed := range int64(600) {
		laid(t, program(seed, 2+int(seed)%14), []int{int(seed), 3, -5, 1 << 33, 77}[seed%3:], seen)
	}
	if seen.in < 10000 || seen.out < 50000 || seen.runs < 500 || seen.exits < 400 {
		t.Errorf("%+v", *seen)
	}
}

// What a program's own words say of where its locals lie.
func TestProgramsFrames(t *testing.T) {
	for _, c := range []struct {
		text  string
		words int
	}{
		{"fn main() { print(1 + 2); }", 0},
		{"fn main() { let x = read(); print(x * x); }", 0},
		{"fn f(x: &i32) -> i32 { *x } fn main() { let x = read(); print(f(&x)); }", 1},
		{"fn f(x: &mut i32) { *x = 1; } fn main() { let a = read(); let mut x = a; let y = a; f(&mut x); print(x + y); }", 1},
		{"fn f(a: &[i32; 3]) -> i32 { a[1] } fn main() { let a = [read(); 3]; print(f(&a)); }", 3},
	} {
		_, _, folded := phases(t, taken(t, c.text))
		where, words := layout.Layout(folded[len(folded)-1])
		if words != c.words || len(where) != len(folded[len(folded)-1].Locals) {
			t.Errorf("%s: %v, %d words, not %d", c.text, where, words, c.words)
		}
		if words > 0 && !slices.Contains(where, 0) || words == 0 && slices.Max(append(where, -1)) != -1 {
			t.Errorf("%s: %v, %d words", c.text, where, words)
		}
	}
}
