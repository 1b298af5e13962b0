package lower_test

import (
	"fmt"
	"math/rand"
	"testing"

	"ferrule/api"
	"ferrule/borrow"
	"ferrule/build"
	"ferrule/drops"
	"ferrule/fold"
	"ferrule/layout"
	"ferrule/lower"
	"ferrule/model"
	"ferrule/parse"
	"ferrule/typeck"
)

// P18.2 of programs of the whole language, behind build, drops and fold: their runs come to what the model's and the middle form's do.

// typed is a program behind typeck, and whether nothing is against it.
func typed(t *testing.T, text string) ([]api.Item, bool) {
	t.Helper()
	items, at, e := parse.Parse(text)
	if e == api.OK {
		items, at, e = typeck.Check(items)
	}
	if e != api.OK {
		t.Fatalf("not typed, %d at %d: %.60s", int(e), at, text[max(0, at-20):])
	}
	_, e = borrow.Check(items)
	return items, e == api.OK
}

// folded is a typed program's functions behind fold, and those behind drops.
func folded(t *testing.T, items []api.Item) (behindFold, behindDrops []api.Mir) {
	t.Helper()
	l, e := build.Build(items)
	if e == api.OK {
		behindDrops, e = drops.Elaborate(items, l)
	}
	if e == api.OK {
		behindFold, e = fold.Fold(behindDrops)
	}
	if e != api.OK {
		t.Fatal("not built:", int(e))
	}
	return behindFold, behindDrops
}

// isSmall tells whether all frames of functions may be; if not, Lower tells that.
func isSmall(t *testing.T, l []api.Mir) bool {
	t.Helper()
	most := 0
	for _, f := range l {
		_, words := layout.Layout(f)
		most = max(most, words)
	}
	out, e := lower.Lower(l)
	if (e == api.ErrFrame) != (most > api.MaxFrame/4) || e != api.OK && len(out) > 0 {
		t.Fatalf("%d with %d words, %d functions", int(e), most, len(out))
	}
	return most <= api.MaxFrame/4
}

// ran holds a program's runs against each other.
func ran(t *testing.T, text string, input []int, fuel int, seen map[[2]int]int) {
	t.Helper()
	items, fine := typed(t, text)
	l, before := folded(t, items)
	for which, l := range [][]api.Mir{l, before} {
		if !fine || !isSmall(t, l) {
			continue
		}
		got := runs(t, text, items, l, input, fuel)
		if want, _ := model.Run(items, input, fuel); !agree(got, want) {
			t.Fatalf("%.3000s: %.300s, but the model %.300s", text, fmt.Sprint(got), fmt.Sprint(want))
		}
		if got.Kind == api.OutTrap {
			t.Fatalf("%.3000s: a trap", text)
		}
		seen[[2]int{got.Kind, got.Code}]++
		if which == 0 { // where a local is set to a number ahead of its use, that number is no operand
			wantChosen(t, lowered(t, l...))
		}
	}
}

// items are what the bodies of the tests speak of.
const items = ` struct P { a: i32, b: u8 } struct Q { p: P, k: Box<i32>, l: [i32; 3] } enum E { N, A(i32), B(Box<i32>, i32) } enum L { N, C(i32, Box<L>) } const K: i32 = 7; struct B { a: [i32; 40], n: u8 } enum T { Leaf, Two(Box<T>, i32, Box<T>) }
fn box(n: i32) -> Box<i32> { Box::new(n) } fn drop(b: Box<i32>) {} fn q() -> Q { Q { p: P { a: 1, b: 2 }, k: box(3), l: [4, 5, 6] } } fn add(x: &mut i32, y: &i32) -> i32 { *x = *x + *y; *x } fn swap(a: &mut P, b: &mut P) { let c = *a; *a = *b; *b = c; }
fn first(l: &[i32; 3], m: &mut L) -> i32 { *m = L::C(l[0], Box::new(L::N)); l[0] } fn all(l: L) -> i32 { match l { L::N => 0, L::C(n, b) => n + all(unbox(b)) } } fn fib(n: i32) -> i32 { if n < 2 { n } else { fib(n - 1) + fib(n - 2) } } fn both(p: P, a: [i32; 3], n: u16) -> P { P { a: p.a + a[n], b: p.b } } fn ever(n: i32) -> i32 { ever(n + 1) + 1 }
fn fill(b: &mut B, n: i32) { let mut i = 0; while i < 40 { b.a[i] = i * n; i = i + 1; } } fn turn(b: &mut B, c: &mut B) { let d = *b; *b = *c; *c = d; } fn sum(a: &[i32; 40]) -> i32 { let mut i = 0; let mut s = 0; while i < 40 { s = s + a[i]; i = i + 1; } s } fn tree(n: i32) -> T { if n < 1 { T::Leaf } else { T::Two(Box::new(tree(n - 1)), n, Box::new(tree(n - 2))) } }
`

func TestPrograms(t *testing.T) {
	seen := map[[2]int]int{}
	bodies := []string{
		"", "print(6 * K); print(-K / 2); print(!K); print(K << 3); print(200u8 as i8); print(-1 as u32); print(K - 2048); print(K & -2048); print(K ^ 4096);",
		"let x = read(); print(x + 5); print(x - 5); print(x & 7); print(x << 4); print(x >> 1); print((x as u32) >> 3); print((x < 4) as i32); print((x == 3) as i32); print((x != 3) as u8); print(x * 12); print(100 / x); print(7 - x); print(5000 + x); print(x - 5000);",
		"let mut x = 1; let y = 5; print(add(&mut x, &y)); print(x); let z = Box::new(K); add(&mut x, &*z); print(x);",
		"let mut p = P { a: 1, b: 2 }; let mut r = P { b: 4, a: 3 }; swap(&mut p, &mut r); print(p.a); print(r.b); p.a = p.a * 2; print(p.a);",
		"let mut a = [[1, 2], [3, 4]]; a[1][0] = 7; let b = a; a[0] = b[1]; let mut i = 0; while i < 2 { print(a[i][1 - i]); i = i + 1; } add(&mut a[1][1], &b[0][0]); print(a[1][1]);",
		"let b = box(7); let c = b; print(*c + 1); let mut d = Box::new(c); **d = 9; print(unbox(unbox(d)));",
		"let b = box(1); if read() == 3 { drop(b); } else { print(*b); } print(2);",
		"let x = q(); print(x.l[2]); let y = x; print(y.p.b); let mut z = q(); let old = replace(&mut z.k, box(8)); print(*old); print(*z.k);",
		"match E::B(box(4), 5) { E::B(b, n) => { print(*b + n); }, E::A(n) => print(n), E::N => {} } match read() { 1 => print(1), 3 => print(33), _ => print(0) }",
		"let mut l = L::N; let mut i = 0; while i < 9 { l = L::C(i, Box::new(l)); i = i + 1; } print(all(l)); l = L::N; let a = [4, 5, 6]; print(first(&a, &mut l)); print(all(l)); print(fib(10));",
		"let u = (); let f = [(), ()]; f[1]; { let x = 1; print(x); } let x = { let y = 2; y + 1 }; let r = both(P { a: 1, b: 2 }, [x, 20, 30], 1); print(r.a);",
		"let mut i = 0; loop { i = i + 1; if i == 5 { break; } if i % 2 == 0 { continue; } let mut j = i; add(&mut j, &i); print(j); }",
		"let a = [1, 2]; let i = 2; print(3); print(a[i]);", "let x = 255u8; print(x + (read() as u8));",
		"let mut a = [0; 120]; let mut b = [[1; 11]; 11]; let mut i = 0; while i < 120 { a[i] = i; b[i % 11][i / 11] = i; i = i + 1; } print(a[119]); print(b[3][10]); let c = b; b[10] = c[2]; print(b[10][1]); print(c[10][10]);",
		"print(1); print(ever(0));", "let mut l = L::N; loop { print(2); l = L::C(1, Box::new(l)); }",
		"let mut b = B { a: [0; 40], n: 1 }; let mut c = B { a: [1; 40], n: 2 }; fill(&mut b, 3); turn(&mut b, &mut c); print(sum(&b.a)); print(sum(&c.a)); print(c.n); let d = Box::new(c); print(sum(&d.a)); b = *d; print(sum(&b.a)); b.a = b.a; print(b.a[39]); let mut e = Box::new(b); e.a = c.a; *e = *e; print(sum(&e.a)); let f = unbox(e); print(f.n);",
		"let t = tree(7); match t { T::Leaf => {}, T::Two(a, n, b) => { print(n); match unbox(a) { T::Leaf => print(0), T::Two(_, m, _) => print(m) } } } print(1);",
		"loop { print(read()); }", "loop {}", "let mut x = 3u8; loop { x = x + 50; print(x); }", "print(-(-2147483647 - 1));", "let x = read(); print(5 / (x - 3));", "let n = read(); print(1 << (n * 11));",
	}
	for _, body := range bodies {
		ran(t, "fn main() { "+body+" }"+items, []int{3, 1, 2}, 100_000, seen)
	}
	wantSeen(t, seen, 2, [2]int{api.OutExit, 0}, [2]int{api.OutExit, 101}, [2]int{api.OutDepth, 0}, [2]int{api.OutMemory, 0}, [2]int{api.OutFuel, 0})
}

// wantSeen asks whether runs ended in each of some ways, so many times at least.
func wantSeen(t *testing.T, seen map[[2]int]int, least int, kinds ...[2]int) {
	t.Helper()
	for _, kind := range kinds {
		if seen[kind] < least {
			t.Errorf("%v only %d times: %v", kind, seen[kind], seen)
		}
	}
}

func TestProgramsByChance(t *testing.T) {
	seen := map[[2]int]int{}
	for seed := range int64(800) {
		chance := rand.New(rand.NewSource(seed))
		input := []int{chance.Intn(5), chance.Intn(300) - 100, chance.Int()}[:chance.Intn(4)]
		ran(t, program(seed, 10+int(seed)%50), input, 20_000, seen)
	}
	wantSeen(t, seen, 5, [2]int{api.OutFuel, 0}, [2]int{api.OutExit, 0}, [2]int{api.OutExit, 101}, [2]int{api.OutDepth, 0}, [2]int{api.OutMemory, 0})
}

// reads tells how many times each register of a function is read, and how many times it is set.
func reads(f api.LowFunc) (read, set map[int]int) {
	read, set = map[int]int{}, map[int]int{}
	for _, reg := range f.Params {
		set[reg]++
	}
	for _, b := range f.Blocks {
		for _, in := range b.List {
			switch in.Op {
			case api.LoMv, api.LoBin, api.LoImm, api.LoLw, api.LoSw, api.LoPrint, api.LoFree:
				read[in.A]++
			}
			if in.Op == api.LoBin || in.Op == api.LoSw {
				read[in.B]++
			}
			for _, reg := range in.Args {
				read[reg]++
			}
			switch in.Op {
			case api.LoLi, api.LoMv, api.LoBin, api.LoImm, api.LoLw, api.LoRead, api.LoAlloc:
				set[in.D]++
			}
			for _, reg := range in.Dsts {
				set[reg]++
			}
		}
		if b.Term.Kind == api.TeIf {
			read[b.Term.A]++
			read[b.Term.B]++
		}
		for _, reg := range b.Term.Args {
			read[reg]++
		}
	}
	return read, set
}

// wantChosen is P18.3 as it shows in what is told of functions: no number that fits is brought into a register for one operation alone, and no end asks for the word of a comparison right ahead that nothing else reads.
func wantChosen(t *testing.T, out []api.LowFunc) {
	t.Helper()
	for _, f := range out {
		read, set := reads(f)
		for _, b := range f.Blocks {
			number := map[int]int{}
			for _, in := range b.List {
				if in.Op == api.LoLi && read[in.D] == 1 && set[in.D] == 1 {
					number[in.D] = in.N
				}
				if n, is := number[in.B]; in.Op == api.LoBin && is && fits(in.Text, n) {
					t.Fatalf("%+v of the number %d: %.3000s", in, n, fmt.Sprint(f))
				}
			}
			if len(b.List) == 0 || b.Term.Kind != api.TeIf {
				continue
			}
			last := b.List[len(b.List)-1]
			compares := (last.Op == api.LoBin || last.Op == api.LoImm) && (last.Text == "slt" || last.Text == "sltu" || last.Text == "xor")
			if compares && b.Term.A == last.D && b.Term.Text == "ne" && b.Term.B == zero && read[last.D] == 1 {
				t.Fatalf("%+v behind %+v: %.3000s", b.Term, last, fmt.Sprint(f))
			}
		}
	}
}

// fits tells whether an operation can have a number in itself as its second operand.
func fits(text string, n int) bool {
	switch text {
	case "add", "and", "or", "xor", "slt", "sltu":
		return n >= -2048 && n <= 2047
	case "sub":
		return n >= -2047 && n <= 2048
	case "sll", "srl", "sra":
		return n >= 0 && n <= 31
	}
	return false
}
