package build_test

import (
	"reflect"
	"slices"
	"strconv"
	"strings"
	"testing"

	"ferrule/api"
	"ferrule/build"
	"ferrule/mir"
	"ferrule/model"
)

// P13.1: what is told of functions, and in what memory. P13.3.

func TestExample(t *testing.T) {
	list := built(t, taken(t, "fn main() { print(1); }"))
	if len(list) != 1 || list[0].Name != "main" || list[0].Params != 0 || list[0].Answers != 0 || list[0].Quiet {
		t.Fatal(list)
	}
	if o, _ := mir.Run(nil, list, nil, 100); !alike(o, api.Outcome{Kind: api.OutExit, Print: []int{1}}) {
		t.Error(o)
	}
}

// A function for each, in order, whatever stands between them.
func TestForms(t *testing.T) {
	list := built(t, taken(t, "fn z(a: (), b: i32, c: P, d: &P) -> P { c } const A: u8 = 1; struct P { a: [u8; 3], b: () } fn main() {} enum E { A, B(P) } fn a(e: E) -> E { e } fn b() -> [(); 9] { [(); 9] } fn c(x: &mut E, b: Box<E>) -> Box<E> { b }"))
	var names []string
	for _, f := range list {
		names = append(names, f.Name)
	}
	if !slices.Equal(names, []string{"z", "main", "a", "b", "c"}) {
		t.Fatal(names)
	}
	for k, want := range [][]int{{0, 1, 3, 1}, {}, {4}, {}, {1, 1}} {
		if !slices.Equal(list[k].Locals[:list[k].Params], want) {
			t.Errorf("%s: params of %v words", list[k].Name, list[k].Locals[:list[k].Params])
		}
	}
	for k, want := range []int{3, 0, 4, 0, 1} {
		if list[k].Answers != want {
			t.Errorf("%s answers %d words", list[k].Name, list[k].Answers)
		}
	}
}

// Programs that borrow refuses are told, too: typeck tells them.
func TestRefusedByBorrow(t *testing.T) {
	for _, body := range []string{
		"let b = box(1); let c = b; print(*b);", "let q = q(); let k = q.k; let l = q.k;", "let mut b = box(1); f(&mut b, b);", "let b = box(1); loop { drop(b); }", "let n = [box(1), box(2)]; let m = n[0]; n[1];", "let b = Box::new(box(1)); let c = *b; drop(*b);", "let mut a = [1, 2]; a[{ a = [3, 4]; 0 }];", "let x = X::Q(q()); match x { X::Q(q) => {}, _ => {} } match x { _ => {} }", "let mut b = box(1); replace(&mut b, b);", "let n = [q(), q()]; match X::Q(n[0]) { _ => {} }", "let b = Box::new(q()); Box::new(*b); eatQ(*b);", "let mut q = q(); q = Q { p: q.p, k: q.k, l: q.l }; q.k = q.k; [q.k, q.k]; unbox(q.k);",
	} {
		l := typed(t, inMain(body)+" fn f(a: &mut Box<i32>, b: Box<i32>) { *a = b; }")
		mir.Run(l, built(t, l), nil, 1000)
	}
}

// A local is used again where nothing lies in it any more, so that frames stay small.
func TestLocalsAreUsedAgain(t *testing.T) {
	words := func(body string) int {
		n := 0
		for _, f := range built(t, taken(t, "fn main() { "+body+" } struct S { a: [i32; 40] } enum E { A([i32; 50]), B }")) {
			for _, words := range f.Locals {
				if words > 1 {
					n += words
				}
			}
		}
		return n
	}
	for body, most := range map[string]int{
		"let a = [1; 100]; let b = a;": 200,
		"{ let a = [1; 100]; } { let a = [1; 100]; } { let b = [1; 60]; let c = [2; 40]; }":                        140,
		"Box::new([1; 100]); let a = Box::new([2; 128]); let b = Box::new(*a); let c = Box::new([read() + 1, 2]);": 2,
		"let mut a = [1; 100]; a = [2; 100]; a = [read(); 100]; let b = [a[1]; 100]; a = b;":                       300,
		"let mut i = 0; while i < 2 { let a = [i; 50]; i = i + 1; } let s = S { a: [i; 40] };":                     50,
		"match E::A([1; 50]) { E::A(a) => { let b = [a[0]; 50]; }, E::B => { let c = [1; 60]; } }":                 170,
		"match E::A([1; 50]) { E::A(a) => {}, E::B => {} } let b = [0; 50]; let c = [0; 50];":                      102,
		"match E::A([1; 50]) { E::A(_) => { let b = [0; 51]; }, E::B => { let b = [0; 51]; } }":                    51,
	} {
		if got := words(body); got > most {
			t.Errorf("%s: %d words in locals, not %d", body, got, most)
		}
	}
}

// Variables of one word that nothing borrows are operands throughout: no place begins in them but for what they point to.
func TestScalarsAreOperands(t *testing.T) {
	body := "let mut x = read(); let y = x; x = y + x; let z = if x < y { x } else { -y }; let mut i = 0u8; while i < 3 { i = i + 1; } print(z as u8); let o = O { x: 5 }; print(o.x); let e = T::B; match e { T::A => print(1), T::B => print(y), T::C => {} } let mut b = box(x); *b = 3; print(*b + unbox(box(2))); let c = b; let d = same(c); x = two(x, i as i32); let f = OB { b: d }; print(*f.b); let g = match E::B(f.b, 4) { E::B(h, n) => *h + n, _ => 0 }; print(replace(&mut x, g)); match x { 1 => {}, _ => print(x) }"
	f := built(t, typed(t, inMain(body)))[0]
	for _, b := range f.Blocks {
		for _, in := range b.List {
			var places []api.Place
			switch in.Op {
			case api.OpLoad, api.OpStore, api.OpAddr:
				places = []api.Place{in.P}
			case api.OpCopy:
				places = []api.Place{in.P, in.Q}
			}
			for _, p := range places {
				if f.Locals[p.Local] == 1 && (len(p.Steps) == 0 || p.Steps[0].Kind != api.StHeld) {
					t.Errorf("%+v", in)
				}
			}
		}
	}
}

// span is the memory of a list, spare room too.
type span struct{ from, to uintptr }

// spans tells those of all lists in a value.
func spans(v reflect.Value) []span {
	var all []span
	switch v.Kind() {
	case reflect.Slice:
		if size := v.Type().Elem().Size() * uintptr(v.Cap()); size > 0 {
			all = append(all, span{v.Pointer(), v.Pointer() + size})
		}
		for k := range v.Len() {
			all = append(all, spans(v.Index(k))...)
		}
	case reflect.Struct:
		for k := range v.NumField() {
			all = append(all, spans(v.Field(k))...)
		}
	}
	return all
}

// roomy is a value in new memory, whose lists have spare room with something in it.
func roomy(v reflect.Value) reflect.Value {
	out := reflect.New(v.Type()).Elem()
	switch v.Kind() {
	case reflect.Slice:
		list := reflect.MakeSlice(v.Type(), v.Len()+2, v.Len()+2)
		for k := range v.Len() {
			list.Index(k).Set(roomy(v.Index(k)))
		}
		for k := v.Len(); k < v.Len()+2; k++ {
			mark(list.Index(k))
		}
		out.Set(list.Slice(0, v.Len()))
	case reflect.Struct:
		for k := range v.NumField() {
			out.Field(k).Set(roomy(v.Field(k)))
		}
	default:
		out.Set(v)
	}
	return out
}

func mark(v reflect.Value) {
	switch v.Kind() {
	case reflect.Int:
		v.SetInt(77)
	case reflect.String:
		v.SetString("spare")
	case reflect.Struct:
		for k := range v.NumField() {
			mark(v.Field(k))
		}
	}
}

// whole is a value with the spare room of its lists as parts of them, in new memory.
func whole(v reflect.Value) reflect.Value {
	out := reflect.New(v.Type()).Elem()
	switch v.Kind() {
	case reflect.Slice:
		if v.IsNil() {
			return out
		}
		all := v.Slice(0, v.Cap())
		list := reflect.MakeSlice(v.Type(), all.Len(), all.Len())
		for k := range all.Len() {
			list.Index(k).Set(whole(all.Index(k)))
		}
		out.Set(list)
	case reflect.Struct:
		for k := range v.NumField() {
			out.Field(k).Set(whole(v.Field(k)))
		}
	default:
		out.Set(v)
	}
	return out
}

// wantApart asks whether what is handed in stays as it was, and what is handed out has memory of its own, each list.
func wantApart(t *testing.T, l []api.Item) {
	t.Helper()
	given := roomy(reflect.ValueOf(l)).Interface().([]api.Item)
	before := whole(reflect.ValueOf(given)).Interface()
	list, e := build.Build(given)
	if !reflect.DeepEqual(before, whole(reflect.ValueOf(given)).Interface()) {
		t.Fatal("what was handed in was changed")
	}
	again, f := build.Build(l)
	if e != f || !reflect.DeepEqual(list, again) {
		t.Fatal("it is not told again")
	}
	all := spans(reflect.ValueOf(list))
	slices.SortFunc(all, func(a, b span) int { return int(int64(a.from) - int64(b.from)) })
	for k := range all {
		if k > 0 && all[k].from < all[k-1].to {
			t.Fatal("two lists share memory")
		}
	}
	for _, s := range spans(reflect.ValueOf(given)) {
		k, _ := slices.BinarySearchFunc(all, s, func(a, b span) int { return int(int64(a.to) - int64(b.from) - 1) })
		if k < len(all) && all[k].from < s.to && s.from < all[k].to {
			t.Fatal("something of what was handed in is handed out")
		}
	}
}

func TestMemory(t *testing.T) {
	wantApart(t, taken(t, inMain("let mut n = [Box::new(box(1)), Box::new(box(2))]; n[read()] = Box::new(box(3)); let e = E::C(box(1), box(2)); match e { E::C(_, b) => { print(*b); }, _ => {} } let b = Box::new([[box(1)], [box(2)]]); b; let mut q = q(); q.k = box(1); replace(&mut q.l[1], 7); showQ(&q); print(two(1, 2)); let p = setP(&mut q.p, 1); [p; 3];")))
	for seed := range 40 {
		wantApart(t, typed(t, program(int64(seed), 40)))
	}
}

// P13.3: what takes the most steps of the middle form for few of the model.
func TestSteps(t *testing.T) {
	var arms, fields, inits, params []string
	for k := range 6500 {
		arms = append(arms, strconv.Itoa(k)+"=>{}")
	}
	for k := range 128 {
		fields = append(fields, "f"+strconv.Itoa(k)+": i32")
		inits = append(inits, "f"+strconv.Itoa(k)+": 1")
	}
	for k := range 127 {
		params = append(params, "p"+strconv.Itoa(k))
	}
	many := strings.TrimSuffix(strings.Repeat("i32, ", 127), ", ")
	for _, text := range []string{
		"fn main() { match read() { " + strings.Join(arms, ",") + ",_=>{} } }",
		"fn main() { [1; 128]; }",
		"fn main() { let a = [read(); 128]; let b = a; let c = Box::new(a); let d = *c; let e = [d; 1]; let f = [[e[0]; 1]; 1]; let mut g = unbox(c); g = a; g = f[0][0]; replace(&mut g, b); }",
		"struct S { " + strings.Join(fields, ", ") + " } fn main() { let s = S { " + strings.Join(inits, ", ") + " }; let t = [s]; let u = t[0]; }",
		"enum E { A(" + many + "), B } fn f(e: &E) { match *e { E::A(" + strings.Join(params, ", ") + ") => print(p126), E::B => {} } } fn main() { let e = E::B; f(&e); let g = E::A(" + strings.TrimSuffix(strings.Repeat("5, ", 127), ", ") + "); f(&g); match g { E::A(" + strings.Join(params, ", ") + ") => {}, _ => {} } }",
		"fn f(a: [i32; 8]) -> [i32; 8] { a } fn main() { f(f(f(f([1; 8])))); }",
	} {
		l := taken(t, text)
		list := built(t, l)
		for _, n := range []int{0, 1, 3000, 6499, 6500, -1} {
			want, steps := model.Run(l, []int{n}, plenty)
			got, many := mir.Run(l, list, []int{n}, plenty)
			if !alike(got, want) || want.Kind != api.OutExit || many > perStep*steps {
				t.Errorf("%.100s: %v by %d steps, %v by %d", text, got, many, want, steps)
			}
		}
	}
	// Most steps of the model need just a few.
	l := taken(t, "fn f(n: u32) -> u32 { if n < 2 { n } else { f(n - 1) + f(n - 2) } } fn main() { let mut a = [0u32; 20]; let mut i = 0; while i < 20 { a[i] = f(i as u32); i = i + 1; } print(a[19]); }")
	_, steps := model.Run(l, nil, plenty)
	if got, many := mir.Run(l, built(t, l), nil, plenty); many > 2*steps || len(got.Print) != 1 {
		t.Errorf("%d steps of the middle form for %d of the model", many, steps)
	}
}
