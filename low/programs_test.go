package low_test

import (
	"fmt"
	"slices"
	"testing"

	"ferrule/api"
	"ferrule/borrow"
	"ferrule/build"
	"ferrule/drops"
	"ferrule/fold"
	"ferrule/low"
	"ferrule/mir"
	"ferrule/model"
	"ferrule/parse"
	"ferrule/typeck"
)

// Programs of the whole language, behind build, drops and fold, brought into the low form as plainly as can be: all locals lie in the frame, and each instruction brings what it needs into registers. Their runs come to what the middle form's runs and the model come to.

// The registers of such functions: those that words are passed in come first.
const (
	here  = 8  // an address, or a word
	there = 9  // another one
	spare = 10 // what is needed to make these; behind it the words of a copy
)

type writing struct {
	at   []int // of each local: how many bytes of the frame lie ahead of it
	list []api.Low
}

func (w *writing) add(list ...api.Low) { w.list = append(w.list, list...) }

// far brings into a register the address so many bytes behind the frame's beginning.
func (w *writing) far(reg, bytes int) {
	w.add(imm(reg, frame, "add", 0), li(spare, bytes), bin(reg, reg, "add", spare))
}

func (w *writing) word(reg int, o api.Operand) {
	switch {
	case o.Const:
		w.add(li(reg, o.N))
	case w.at[o.N] < 2048:
		w.add(lw(reg, frame, w.at[o.N]))
	default:
		w.far(reg, w.at[o.N])
		w.add(lw(reg, reg, 0))
	}
}

// set stores a register's word in a scalar; there is overwritten.
func (w *writing) set(scalar, reg int) {
	if w.at[scalar] < 2048 {
		w.add(sw(frame, w.at[scalar], reg))
		return
	}
	w.far(there, w.at[scalar])
	w.add(sw(there, 0, reg))
}

// place brings a place's address into a register.
func (w *writing) place(reg int, p api.Place) {
	w.far(reg, w.at[p.Local])
	for _, s := range p.Steps {
		switch s.Kind {
		case api.StAdd:
			w.add(li(spare, 4*s.N), bin(reg, reg, "add", spare))
		case api.StIndex:
			w.word(spare+1, api.Operand{N: s.N})
			w.add(li(spare, 4*s.Size), bin(spare, spare, "mul", spare+1), bin(reg, reg, "add", spare))
		case api.StHeld:
			w.add(lw(reg, reg, 0))
		}
	}
}

func (w *writing) passed(list []api.Operand) []int {
	var out []int
	for reg, o := range list {
		w.word(reg, o)
		out = append(out, reg)
	}
	return out
}

func (w *writing) instr(in api.Instr) {
	switch in.Op {
	case api.OpSet, api.OpBin, api.OpFree, api.OpPrint, api.OpStore:
		w.word(here, in.A)
	}
	switch in.Op {
	case api.OpBin:
		w.word(there, in.B)
		w.add(bin(here, here, in.Text, there))
	case api.OpLoad:
		w.place(here, in.P)
		w.add(lw(here, here, 0))
	case api.OpStore:
		w.place(there, in.P)
		w.add(sw(there, 0, here))
	case api.OpCopy:
		w.copied(in)
	case api.OpAddr:
		w.place(here, in.P)
	case api.OpAlloc:
		w.add(alloc(here, in.N))
	case api.OpFree:
		w.add(free(here))
	case api.OpPrint:
		w.add(api.Low{Op: api.LoPrint, A: here, N: in.N})
	case api.OpRead:
		w.add(read(here))
	case api.OpCall:
		var dsts []int
		for reg := range in.Dsts {
			dsts = append(dsts, reg)
		}
		w.add(calls(dsts, in.Text, w.passed(in.Args)...))
		for reg, dst := range in.Dsts {
			w.set(dst, reg)
		}
	}
	switch in.Op {
	case api.OpSet, api.OpBin, api.OpLoad, api.OpAddr, api.OpAlloc, api.OpRead:
		w.set(in.Dst, here)
	}
}

func (w *writing) copied(in api.Instr) {
	w.place(here, in.P)
	w.place(there, in.Q)
	for k := range in.N {
		w.add(lw(spare+k, there, 4*k))
	}
	for k := range in.N {
		w.add(sw(here, 4*k, spare+k))
	}
}

func (w *writing) term(t api.Term) api.LowTerm {
	switch t.Kind {
	case api.TeIf:
		w.word(here, t.A)
		return branch(here, "ne", zero, t.To+1, t.Else+1)
	case api.TeReturn:
		return answer(w.passed(t.Args)...)
	}
	return api.LowTerm{Kind: t.Kind, To: t.To + 1}
}

// written is a function in the low form. Its first block brings what it is passed into its locals.
func written(f api.Mir) api.LowFunc {
	w := &writing{}
	words, params := 0, 0
	for k, n := range f.Locals {
		if k == f.Params {
			params = words
		}
		w.at = append(w.at, 4*words)
		words += n
	}
	if f.Params == len(f.Locals) {
		params = words
	}
	out := api.LowFunc{Name: f.Name, Regs: spare + api.MaxWords + 2, Answers: f.Answers, Frame: words, Quiet: f.Quiet, Blocks: []api.LowBlock{block(jump(1))}}
	for reg := range params {
		out.Params = append(out.Params, reg)
		out.Blocks[0].List = append(out.Blocks[0].List, sw(frame, 4*reg, reg))
	}
	for _, b := range f.Blocks {
		w.list = nil
		for _, in := range b.List {
			w.instr(in)
		}
		end := w.term(b.Term)
		out.Blocks = append(out.Blocks, block(end, w.list...))
	}
	return out
}

// taken is a typed program that nothing is against, and its functions in the middle form.
func taken(t *testing.T, text string) ([]api.Item, []api.Mir) {
	t.Helper()
	items, at, e := parse.Parse(text)
	if e == api.OK {
		items, at, e = typeck.Check(items)
	}
	if e == api.OK {
		at, e = borrow.Check(items)
	}
	if e != api.OK {
		t.Fatalf("not taken, %d at %d: %.60s", int(e), at, text[max(0, at-20):])
	}
	l, e := build.Build(items)
	if e == api.OK {
		l, e = drops.Elaborate(items, l)
	}
	if e == api.OK {
		l, e = fold.Fold(l)
	}
	if e != api.OK {
		t.Fatalf("not built: %d: %s", int(e), text)
	}
	return items, l
}

// ran holds a program's run in the low form against the model's and the middle form's, and against itself with less fuel.
func ran(t *testing.T, text string, input []int, seen map[[2]int]int) {
	t.Helper()
	const fuel = 4_000_000
	items, l := taken(t, text)
	var list []api.LowFunc
	for _, f := range l {
		list = append(list, written(f))
	}
	if e := low.Check(list); e != api.OK {
		t.Fatalf("%s: Check tells %v", text, e)
	}
	got, steps := low.Run(list, input, fuel)
	middle, _ := mir.Run(items, l, input, fuel)
	want, _ := model.Run(items, input, fuel)
	if want.Kind == api.OutFuel || !alike(middle, want) || !alike(got, want) {
		t.Fatalf("%.3000s: %.300s, but the middle form %.300s, and the model %.300s", text, fmt.Sprint(got), fmt.Sprint(middle), fmt.Sprint(want))
	}
	less, n := low.Run(list, input, steps-1)
	if less.Kind != api.OutFuel || n != steps-1 || !slices.Equal(less.Print, want.Print[:len(less.Print)]) {
		t.Fatalf("%.3000s: %.300s with %d steps of %d", text, fmt.Sprint(less), n, steps)
	}
	seen[[2]int{got.Kind, got.Code}]++
}

// items are what the bodies of the tests speak of.
const items = ` struct P { a: i32, b: u8 } struct Q { p: P, k: Box<i32>, l: [i32; 3] } enum E { N, A(i32), B(Box<i32>, i32) } enum L { N, C(i32, Box<L>) } const K: i32 = 7;
fn box(n: i32) -> Box<i32> { Box::new(n) } fn drop(b: Box<i32>) {} fn q() -> Q { Q { p: P { a: 1, b: 2 }, k: box(3), l: [4, 5, 6] } } fn add(x: &mut i32, y: &i32) -> i32 { *x = *x + *y; *x } fn swap(a: &mut P, b: &mut P) { let c = *a; *a = *b; *b = c; }
fn first(l: &[i32; 3], m: &mut L) -> i32 { *m = L::C(l[0], Box::new(L::N)); l[0] } fn all(l: L) -> i32 { match l { L::N => 0, L::C(n, b) => n + all(unbox(b)) } } fn fib(n: i32) -> i32 { if n < 2 { n } else { fib(n - 1) + fib(n - 2) } } fn both(p: P, a: [i32; 3], n: u16) -> P { P { a: p.a + a[n], b: p.b } } fn ever(n: i32) -> i32 { ever(n + 1) + 1 }
`

func TestPrograms(t *testing.T) {
	seen := map[[2]int]int{}
	bodies := []string{
		"", "print(6 * K); print(-K / 2); print(!K); print(K << 3); print(200u8 as i8); print(-1 as u32);",
		"let mut x = 1; let y = 5; print(add(&mut x, &y)); print(x); let z = Box::new(K); add(&mut x, &*z); print(x);",
		"let mut p = P { a: 1, b: 2 }; let mut r = P { b: 4, a: 3 }; swap(&mut p, &mut r); print(p.a); print(r.b); p.a = p.a * 2; print(p.a);",
		"let mut a = [[1, 2], [3, 4]]; a[1][0] = 7; let b = a; a[0] = b[1]; let mut i = 0; while i < 2 { print(a[i][1 - i]); i = i + 1; } add(&mut a[1][1], &b[0][0]); print(a[1][1]);",
		"let b = box(7); let c = b; print(*c + 1); let mut d = Box::new(c); **d = 9; print(unbox(unbox(d)));",
		"let b = box(1); if read() == 3 { drop(b); } else { print(*b); } print(2);",
		"let x = q(); print(x.l[2]); let y = x; print(y.p.b); let mut z = q(); let old = replace(&mut z.k, box(8)); print(*old); print(*z.k);",
		"match E::B(box(4), 5) { E::B(b, n) => { print(*b + n); }, E::A(n) => print(n), E::N => {} } match read() { 1 => print(1), 3 => print(33), _ => print(0) }",
		"let mut l = L::N; let mut i = 0; while i < 9 { l = L::C(i, Box::new(l)); i = i + 1; } print(all(l)); l = L::N; let a = [4, 5, 6]; print(first(&a, &mut l)); print(all(l)); print(fib(10));",
		"let u = (); let f = [(), ()]; f[1]; { let x = 1; print(x); } let x = { let y = 2; y + 1 }; let r = both(P { a: 1, b: 2 }, [x, 20, 30], 1); print(r.a);",
		"let mut i = 0; loop { i = i + 1; if i == 5 { break; } if i % 2 == 0 { continue; } let mut j = i; add(&mut j, &i); print(j); }",
		"let a = [1, 2]; let i = 2; print(3); print(a[i]);", "let x = 255u8; print(x + (read() as u8));",
		"let mut a = [0; 120]; let mut b = [[1; 11]; 11]; let mut i = 0; while i < 120 { a[i] = i; b[i % 11][i / 11] = i; i = i + 1; } print(a[119]); print(b[3][10]); let c = b; b[10] = c[2]; print(b[10][1]); print(c[10][10]);",
		"print(1); print(ever(0));", "let mut l = L::N; loop { print(2); l = L::C(1, Box::new(l)); }",
	}
	for _, body := range bodies {
		ran(t, "fn main() { "+body+" }"+items, []int{3, 1, 2}, seen)
	}
	for _, kind := range [][2]int{{api.OutExit, 0}, {api.OutExit, 101}, {api.OutDepth}, {api.OutMemory}} {
		if seen[kind] == 0 {
			t.Errorf("no run ended with %v: %v", kind, seen)
		}
	}
}

func TestProgramsByChance(t *testing.T) {
	seen := map[[2]int]int{}
	for seed := range int64(600) {
		ran(t, program(seed, 2+int(seed)%14), []int{int(seed), 3, -5, 1 << 33, 77}[seed%3:], seen)
	}
	if exits := seen[[2]int{api.OutExit, 0}]; exits < 400 {
		t.Errorf("%v", seen)
	}
}
