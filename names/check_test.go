package names

import (
	"slices"
	"strconv"
	"strings"
	"testing"

	"ferrule/api"
	"ferrule/parse"
)

// TestExamples are the chapter's own ones.
func TestExamples(t *testing.T) {
	wantText(t, "struct S { @a: S }", api.ErrSize)
	wantText(t, "fn main() {} fn @main() {}", api.ErrTwice)
	wantText(t, "fn main() {} fn  @main() {}", api.ErrTwice)
}

// TestNothingIsAgainst takes programs of all kinds of items, in many orders.
func TestNothingIsAgainst(t *testing.T) {
	for _, text := range []string{
		"fn main() {}", "fn main() -> () {}", "struct main_ {} fn main() {} enum Main {} const MAIN: u8 = 0;",
		"fn main() {} struct S {} enum E {}", "struct P { a: u8, b: [bool; 3] } fn main() {}", "fn main() {} struct A { b: B } struct B { c: [C; 2] } enum C { N, V(u8, D), W(D) } struct D {}",
		"fn main() {} enum List { Nil, Cons(u8, Box<List>) } struct Tree { l: Box<Tree>, r: Box<Tree>, m: Box<[Tree; 3]> }",
		"fn main() {} struct A { b: Box<B> } struct B { a: Box<A>, all: [Box<B>; 5] }", "fn main() {} struct N { n: [N; 0] }",
		"fn main() {} fn f(a: &u8, b: &mut [u8; 128], mut c: bool, d: &S, e: &mut Box<S>, f: ()) -> [u8; 8] {} struct S { a: [[u8; 2]; 64] }",
		"fn f() -> Box<[u8; 128]> {} fn g(a: Box<[u8; 128]>) -> S {} fn main() {} struct S { a: [u16; 8] }",
		"fn main() { nobody(x); let x: Nobody = y; return 1; }", "fn main() {} fn f(main: u8, f: u8, S: S, E: E, K: u8) {} struct S { S: u8, main: E } enum E { E, S, K, main } const K: u8 = 1;",
		"fn main() {} struct S { a: u8 } struct T { a: u8 } enum E { a, b } enum F { a, b } fn f(a: u8) {} fn g(a: u8) {}",
		"fn main() {} fn _() {} struct __ { _: u8 } enum E { _ }", "fn main() {} const A: i8 = -128; const B: i8 = 127; const C: u32 = 4294967295; struct d {}",
	} {
		l, _, e := parse.Parse(text)
		if e != api.OK {
			t.Fatal(text, int(e))
		}
		for range len(l) {
			want(t, l, 0, api.OK)
			wantWords(t, l)
			l = append(l[1:len(l):len(l)], l[0])
		}
		slices.Reverse(l)
		want(t, l, 0, api.OK)
	}
}

// spots puts one item ahead of, among and behind others that nothing is against.
func spots(it api.Item) [][]api.Item {
	good := []api.Item{structure("Good", 1000, u8, box(named("Good"))), mainAt(2000), enum("Well", 3000, nil, of(named("Good"))), constant("Fine", 4000, u8, 255), function("fair", 5000, u8, ref(u8))}
	var all [][]api.Item
	for k := range len(good) + 1 {
		all = append(all, slices.Insert(slices.Clone(good), k, it))
	}
	return all
}

func wantAtAllSpots(t *testing.T, it api.Item, at int, e api.Errno) {
	t.Helper()
	for _, l := range spots(it) {
		want(t, l, at, e)
	}
}

// badTypes are types that Type has something against; the refs are those of params.
var badTypes = []struct {
	x    api.Type
	e    api.Errno
	refs bool // a param may be so
}{
	{ref(u8), api.ErrBorrow, true}, {mut(named("Good")), api.ErrBorrow, true}, {box(ref(u8)), api.ErrBorrow, false}, {ref(mut(u8)), api.ErrBorrow, false}, {array(2, mut(u8)), api.ErrBorrow, false},
	{named("nobody"), api.ErrName, false}, {named("main"), api.ErrName, false}, {named("Fine"), api.ErrName, false}, {named("u8"), api.ErrName, false}, {box(named("")), api.ErrName, false},
	{ty(0), api.ErrForm, false}, {ty(api.TyNever), api.ErrForm, false}, {ty(api.TyBox), api.ErrForm, false}, {box(array(3)), api.ErrForm, false}, {ty(-1), api.ErrForm, false},
	{array(129, u8), api.ErrSize, false}, {box(array(129, named("Good"))), api.ErrSize, false}, {array(512, unit), api.ErrSize, false},
}

// TestBadTypes puts each of them first, in the midst and last, into each kind of item.
func TestBadTypes(t *testing.T) {
	for _, bad := range badTypes {
		for k := range 4 {
			list := slices.Insert(of(u8, box(named("Well")), unit), k, bad.x)
			wantAtAllSpots(t, structure("S", 50, list...), 51+k, bad.e)
			if bad.refs {
				wantAtAllSpots(t, function("f", 50, unit, list...), 0, api.OK)
			} else {
				wantAtAllSpots(t, function("f", 50, unit, list...), 51+k, bad.e)
			}
			// A variant's types have its place; it stands first, in the midst and last itself.
			for at := range 3 {
				wantAtAllSpots(t, enum("E", 50, slices.Insert([][]api.Type{nil, of(u8)}, at, list)...), 51+at, bad.e)
			}
		}
		wantAtAllSpots(t, function("f", 50, bad.x), 50, bad.e)
		wantAtAllSpots(t, function("f", 50, bad.x, u8, ref(u8)), 50, bad.e)
		wantAtAllSpots(t, constant("K", 50, bad.x, 0), 50, bad.e)
		// What stands in a field of an item that has none of it is not asked for.
		it := structure("S", 50, u8)
		it.Type, it.Variants, it.Num = bad.x, enum("", 0, of(bad.x), of(bad.x)).Variants, -5
		wantAtAllSpots(t, it, 0, api.OK)
		it = enum("E", 50, nil)
		it.Type, it.Params = bad.x, params(0, bad.x, bad.x)
		wantAtAllSpots(t, it, 0, api.OK)
		it = function("f", 50, unit)
		it.Variants, it.Num = enum("", 0, of(bad.x)).Variants, 1<<40
		wantAtAllSpots(t, it, 0, api.OK)
		it = constant("K", 50, u8, 1)
		it.Variants, it.Params = enum("", 0, of(bad.x)).Variants, params(0, bad.x)
		wantAtAllSpots(t, it, 0, api.OK)
	}
}

// TestNamesTwice gives each two of some params, fields and variants one name.
func TestNamesTwice(t *testing.T) {
	list := of(u8, unit, box(u8), unit, u8)
	for second := range list {
		for first := range second {
			f, s, e := function("f", 50, unit, list...), structure("S", 50, list...), enum("E", 50, list[:1], nil, list[:2], nil, nil)
			f.Params[second].Name = f.Params[first].Name
			s.Params[second].Name = s.Params[first].Name
			e.Variants[second].Name = e.Variants[first].Name
			for _, it := range []api.Item{f, s, e} {
				wantAtAllSpots(t, it, 51+second, api.ErrTwice)
			}
		}
	}
	// Three of one name: the second one is told. Names are alike to the last letter, and empty ones too.
	it := structure("S", 50, list...)
	it.Params[1].Name, it.Params[3].Name, it.Params[4].Name = "", "", ""
	wantAtAllSpots(t, it, 54, api.ErrTwice)
	it.Params[3].Name, it.Params[4].Name = " ", "p0 "
	wantAtAllSpots(t, it, 0, api.OK)
}

// TestItemsTwice gives each two of all kinds of items one name.
func TestItemsTwice(t *testing.T) {
	kinds := []api.Item{function("T", 10, unit, u8), structure("T", 10, u8), enum("T", 10, of(u8)), constant("T", 10, u8, 1), {Kind: 0, Name: "T", At: 10}, {Kind: 99, Name: "T", At: 10}}
	for _, a := range kinds {
		for _, b := range kinds {
			b.At = 20
			want(t, []api.Item{a, b}, 20, api.ErrTwice)
			want(t, []api.Item{mainAt(1), a, structure("S", 5), b}, 20, api.ErrTwice)
			c := b
			c.At = 30
			want(t, []api.Item{a, mainAt(1), b, c}, 20, api.ErrTwice)
			b.Name = "t"
			if a.Kind%99 != 0 && b.Kind%99 != 0 {
				want(t, []api.Item{a, mainAt(1), b}, 0, api.OK)
			}
		}
	}
	for _, it := range kinds {
		it.Name = "main"
		want(t, []api.Item{mainAt(1), it}, 10, api.ErrTwice)
		want(t, []api.Item{it, mainAt(1)}, 1, api.ErrTwice)
	}
	want(t, []api.Item{mainAt(1), structure("", 5), enum("", 6)}, 6, api.ErrTwice)
}

// TestWordsOfCalls: params of MaxPass words together, and of more; an answer likewise.
func TestWordsOfCalls(t *testing.T) {
	nine := structure("Nine", 40, many(9, u8)...)
	for _, c := range []struct {
		list []api.Type
		n    int
	}{
		{many(8, u8), 8}, {many(9, u8), 9}, {of(array(8, u8)), 8}, {of(array(9, u8)), 9}, {of(array(4, u8), unit, array(4, u8)), 8}, {of(array(4, u8), array(5, u8)), 9}, {of(array(5, u8), array(4, u8)), 9},
		{of(u8, array(7, u8)), 8}, {of(array(8, u8), u8), 9}, {many(8, ref(array(128, u8))), 8}, {many(9, mut(u8)), 9}, {many(8, box(named("Nine"))), 8}, {many(9, box(u8)), 9},
		{of(named("Nine")), 9}, {of(named("Two"), named("Two"), named("Two"), named("Two")), 8}, {of(named("Two"), named("Two"), named("Two"), named("Two"), ty(api.TyBool)), 9},
		{many(200, unit), 0}, {append(many(200, unit), array(8, u8)), 8}, {append(many(200, named("Empty")), array(9, u8)), 9}, {of(array(128, u8)), 128}, {many(3, array(128, u8)), 384}, {nil, 0},
	} {
		e, at := api.OK, 0
		if c.n > api.MaxPass {
			e, at = api.ErrWords, 7
		}
		rest := []api.Item{nine, enum("Two", 60, nil, of(u8)), structure("Empty", 70), mainAt(80)}
		want(t, append([]api.Item{function("f", 7, unit, c.list...)}, rest...), at, e)
		want(t, append([]api.Item{function("f", 7, array(8, u8), c.list...)}, rest...), at, e)
		want(t, append(rest, function("f", 7, array(9, u8), c.list...)), 7, api.ErrWords)
		for _, answer := range c.list {
			one := plainWords(rest, answer)
			switch {
			case answer.Kind == api.TyRef || answer.Kind == api.TyMut:
				want(t, append(rest, function("f", 7, answer)), 7, api.ErrBorrow)
			case one > api.MaxPass:
				want(t, append(rest, function("f", 7, answer)), 7, api.ErrWords)
			default:
				want(t, append(rest, function("f", 7, answer, u8)), 0, api.OK)
			}
		}
	}
	// A struct and an enum pass nothing.
	want(t, []api.Item{mainAt(1), structure("S", 10, many(128, u8)...), enum("E", 200, many(127, u8))}, 0, api.OK)
}

// TestGreatItems: each part has words, and all together may have too many; or there are too many parts.
func TestGreatItems(t *testing.T) {
	for n := 120; n <= 136; n++ {
		fields, variant := structure("S", 9, array(100, u8), array(n-100, u8)), enum("S", 9, nil, many(n-1, u8), of(u8))
		sized, at := api.OK, 0
		if n > api.MaxWords {
			sized, at = api.ErrSize, 9
		}
		wantAtAllSpots(t, fields, at, sized)
		wantAtAllSpots(t, variant, at, sized)
	}
	for n := 508; n <= 516; n++ {
		fields, variants := structure("S", 9, many(n-1, unit)...), enum("S", 9, many(200, unit), many(n-201, unit))
		sized, at := api.OK, 0
		if n > 4*api.MaxWords {
			sized, at = api.ErrSize, 9
		}
		wantAtAllSpots(t, fields, at, sized)
		wantAtAllSpots(t, variants, at, sized)
	}
	// The one that holds it is told, if it stands ahead.
	wide := structure("Wide", 300, array(100, u8), array(29, u8))
	for _, it := range []api.Item{structure("S", 9, u8, named("Wide")), structure("S", 9, u8, box(named("Wide"))), function("S", 9, unit, u8, ref(named("Wide"))), enum("S", 9, nil, of(u8, named("Wide")))} {
		want(t, []api.Item{mainAt(1), it, wide}, 11, api.ErrSize)
		want(t, []api.Item{mainAt(1), wide, it}, 300, api.ErrSize)
	}
	want(t, []api.Item{function("f", 9, named("Wide")), wide, mainAt(1)}, 9, api.ErrSize)
	want(t, []api.Item{constant("K", 9, named("Wide"), 1), wide, mainAt(1)}, 9, api.ErrSize)
}

// TestTypesWithinThemselves are told at the field, or variant, of the first item whose type has no end.
func TestTypesWithinThemselves(t *testing.T) {
	for _, text := range []string{
		"fn main() {} struct S { @a: S }", "fn main() {} struct S { a: u8, @b: S, c: S }", "struct S { @a: Box<S>, b: [S; 1] } fn main() {}", "struct S { @a: Box<[S; 129]> } fn main() {}",
		"enum E { A, @B(E) } fn main() {}", "enum E { A(Box<u8>), @B(u8, [E; 2]), C(E) } fn main() {}", "enum E { @A(u8, Box<E>), B(u8, [E; 2]) } fn main() {}",
		"struct A { @b: B } struct B { a: A } fn main() {}", "struct B { @a: A } fn main() {} struct A { b: B }", "struct A { @b: B } enum B { N, V(C) } struct C { a: [A; 3] } fn main() {}",
		"struct A { a: Box<A> } struct B { a: A, @b: Box<C> , c: C } struct C { c: Box<B>, d: [C; 1] } fn main() {}", "struct A { @a: Box<B> } struct B { b: B } fn main() {}",
		"fn f(a: u8, @b: &S) {} struct S { a: S } fn main() {}", "fn @f() -> S {} struct S { a: S } fn main() {}", "fn @f() -> Box<S> {} struct S { a: S } fn main() {}", "const @K: S = 1; struct S { a: S }",
	} {
		wantText(t, text, api.ErrSize)
	}
}

// TestConstants: both ends of each range, and one beyond each.
func TestConstants(t *testing.T) {
	for kind, end := range map[int][2]int{
		api.TyI8: {-128, 127}, api.TyI16: {-32768, 32767}, api.TyI32: {-1 << 31, 1<<31 - 1}, api.TyU8: {0, 255}, api.TyU16: {0, 65535}, api.TyU32: {0, 1<<32 - 1},
	} {
		for _, v := range []int{end[0], end[0] + 1, 0, 1, 100, end[1] - 1, end[1]} {
			wantAtAllSpots(t, constant("K", 9, ty(kind), v), 0, api.OK)
		}
		for _, v := range []int{end[0] - 1, end[1] + 1, -1 << 63, 1<<63 - 1, 1 << 40, -1 << 40, 1<<32 + 1, -1<<32 - 1, 1 << 32} {
			wantAtAllSpots(t, constant("K", 9, ty(kind), v), 9, api.ErrRange)
		}
	}
	for _, x := range []api.Type{unit, ty(api.TyBool), named("Good"), named("Well"), array(1, u8), array(0, u8), array(128, u8), box(u8), box(named("Good"))} {
		for _, v := range []int{0, 1, -1, 300, 1 << 62, -1 << 63} {
			wantAtAllSpots(t, constant("K", 9, x, v), 9, api.ErrType)
		}
	}
	for _, x := range []api.Type{ty(api.TyU8, ty(99)), {Kind: api.TyU8, Name: "nobody", N: 9}} {
		wantAtAllSpots(t, constant("K", 9, x, 255), 0, api.OK)
		wantAtAllSpots(t, constant("K", 9, x, 256), 9, api.ErrRange)
	}
}

// TestFunctionMain: it is missing, has params, answers something, or is no function; that is told last, at 0.
func TestFunctionMain(t *testing.T) {
	for _, text := range []string{
		"", "fn f() {}", "fn Main() {}", "fn main_() {} fn mai() {}", "fn main(a: u8) {}", "fn main(a: ()) {}", "fn main(a: &u8) {}", "fn main() -> u8 { 1 }", "fn main() -> Box<u8> {}", "fn main() -> [u8; 0] {}", "fn main() -> S {} struct S {}",
		"fn main(a: u8) -> u8 { a }", "struct main {}", "enum main { A }", "const main: u8 = 1;", "struct main { a: u8 } fn f() {}", "struct S {} enum E {} const K: u8 = 1;", "struct S { main: u8 } enum E { main } fn f(main: u8) {}",
		"struct S {} fn main() -> bool { true } fn f() {}",
	} {
		wantText(t, text, api.ErrMain)
	}
	for _, list := range [][]api.Item{nil, {}} {
		want(t, list, 0, api.ErrMain)
	}
	// What an item has beside what its kind needs does not matter.
	for _, kind := range []int{api.ItStruct, api.ItEnum} {
		want(t, []api.Item{{Kind: kind, Name: "main", At: 3, Type: unit}}, 0, api.ErrMain)
	}
	good := mainAt(7)
	good.Type.N, good.Type.Name, good.Num, good.Body = 5, "x", 9, api.Expr{Kind: 99, At: -4}
	want(t, []api.Item{good}, 0, api.OK)
	want(t, []api.Item{function("f", 5, unit), good}[:1], 0, api.ErrMain)
	// All else comes ahead, at whatever item.
	for text, e := range map[string]api.Errno{
		"struct S { @a: T }": api.ErrName, "fn main(a: u8) {} struct S { a: u8, @a: u8 }": api.ErrTwice, "fn f() {} fn g() {} fn @f() {}": api.ErrTwice, "fn main(@a: T) {}": api.ErrName,
		"fn @main() -> T {}": api.ErrName, "fn @main(a: [u8; 9]) {}": api.ErrWords, "fn main() -> u8 {} const @K: u8 = 256;": api.ErrRange, "struct main { @a: main }": api.ErrSize,
	} {
		wantText(t, text, e)
	}
}

// TestWhichIsFirst: of several errors the first one is told, as the chapter orders them.
func TestWhichIsFirst(t *testing.T) {
	for text, e := range map[string]api.Errno{
		// Names of items ahead of all else, however far on.
		"struct S { a: T } fn main() {} const @S: u8 = 256;":            api.ErrTwice,
		"fn f(a: u8, a: u8) {} struct S { a: S } fn @print() {}":        api.ErrTwice,
		"const K: u8 = 256; fn @u8() {} fn u8() {} fn f() {} fn f() {}": api.ErrTwice,
		"fn f() {} fn @f() {} fn read() {}":                             api.ErrTwice,
		"fn @bool() {} fn f() {} fn f() {}":                             api.ErrTwice,
		"fn main(a: T) -> U {} fn @main() {}":                           api.ErrTwice,
		"struct S { a: S } struct @S { a: u8 }":                         api.ErrTwice,
		// Then item by item, and in one item part by part.
		"const @K: u8 = 256; struct S { a: T }":                      api.ErrRange,
		"struct S { @a: T } const K: u8 = 256;":                      api.ErrName,
		"struct S { a: u8, @b: T, a: u8 }":                           api.ErrName,
		"struct S { a: u8, @a: T, b: U }":                            api.ErrTwice,
		"struct S { @a: T, a: u8 }":                                  api.ErrName,
		"struct S { a: u8, @a: &u8 }":                                api.ErrTwice,
		"fn f(a: u8, @a: T) -> U {}":                                 api.ErrTwice,
		"fn f(a: [u8; 9], @b: T) -> &u8 {}":                          api.ErrName,
		"fn @f(a: [u8; 9], b: u8) -> &u8 {}":                         api.ErrBorrow,
		"fn @f(a: [u8; 9], b: u8) -> [u8; 129] {}":                   api.ErrSize,
		"fn @f(a: [u8; 9], b: u8) -> [u8; 10] {} struct S { a: S }":  api.ErrWords,
		"fn @f(a: u8) -> [u8; 9] {} const K: u8 = 256;":              api.ErrWords,
		"enum E { A, B(u8, u8), @A(T) }":                             api.ErrTwice,
		"enum E { A, @B(u8, T), A }":                                 api.ErrName,
		"enum E { @A(u8, [u8; 129], T) }":                            api.ErrSize,
		"enum E { @A(u8, T, [u8; 129]) }":                            api.ErrName,
		"struct @S { a: [u8; 100], b: [u8; 100] } struct T { a: U }": api.ErrSize,
		"struct S { a: [u8; 100], b: [u8; 100], @a: u8 }":            api.ErrTwice,
		"enum E { A([u8; 100], [u8; 100]), @A }":                     api.ErrTwice,
		"const @K: bool = 256; const L: u8 = 256;":                   api.ErrType,
		"const @K: T = 256;":                                         api.ErrName,
		"const @K: &u8 = 256;":                                       api.ErrBorrow,
		"const @K: [u8; 129] = 256;":                                 api.ErrSize,
		// In one type what is further outwards, and forms ahead of words.
		"struct S { @a: [Box<&T>; 999] }": api.ErrBorrow,
		"struct S { @a: [Box<T>; 999] }":  api.ErrName,
		"struct S { @a: [Box<u8>; 999] }": api.ErrSize,
		"fn f(@a: & &mut T) {}":           api.ErrBorrow,
		"fn f(@a: &mut T) {}":             api.ErrName,
		"fn f(@a: &mut [&u8; 999]) {}":    api.ErrBorrow,
		"fn f(@a: &mut [u8; 999]) {}":     api.ErrSize,
		"struct S { @a: &[T; 999] }":      api.ErrBorrow,
	} {
		wantText(t, text, e)
		if !strings.Contains(text, "main") {
			wantText(t, text+" fn main() {}", e)
			wantText(t, "fn main() {} "+text, e)
		}
	}
}

// TestPlaces: a fault's place is that of the name, whatever stands ahead of it.
func TestPlaces(t *testing.T) {
	for text, e := range map[string]api.Errno{
		"fn main() {}\n// x\nstruct\n @main {}": api.ErrTwice, "fn main() {} fn f(mut a: u8, mut @a: u8) {}": api.ErrTwice, "fn main() {} fn f(a: u8, mut  @b: T) {}": api.ErrName,
		"fn main() {} enum\tE { A, //\n@A }": api.ErrTwice, "fn main() {} const   @K : u8 = -1;": api.ErrRange, "fn main() {} const // K\n@K: bool = 1;": api.ErrType,
	} {
		wantText(t, text, e)
	}
	for _, at := range []int{0, -1, 1, -1 << 63, 1<<63 - 1} {
		want(t, []api.Item{mainAt(5), {Kind: api.ItConst, Name: "K", At: at, Type: u8, Num: -1}}, at, api.ErrRange)
		want(t, []api.Item{mainAt(5), {Kind: api.ItStruct, Name: "S", At: 7, Params: []api.Param{{Name: "a", At: at, Type: ty(0)}}}}, at, api.ErrForm)
		want(t, []api.Item{mainAt(5), {Kind: api.ItEnum, Name: "S", At: 7, Variants: []api.Variant{{Name: "a", At: at, Types: of(u8, named("T"))}}}}, at, api.ErrName)
	}
}

// TestOtherKinds: an item of another kind is told in its turn.
func TestOtherKinds(t *testing.T) {
	for _, kind := range []int{0, -1, 5, 99, 257, -1 << 63, 1<<63 - 1} {
		wantAtAllSpots(t, api.Item{Kind: kind, Name: "x", At: 9}, 9, api.ErrForm)
		wantAtAllSpots(t, api.Item{Kind: kind, Name: "", At: 9, Params: params(50, ty(0), ref(u8)), Variants: enum("", 60, of(ty(0))).Variants, Type: ty(0), Num: 1 << 40}, 9, api.ErrForm)
		other := api.Item{Kind: kind, Name: "x", At: 9}
		want(t, []api.Item{other}, 9, api.ErrForm)
		want(t, []api.Item{other, constant("K", 20, u8, 256)}, 9, api.ErrForm)
		want(t, []api.Item{constant("K", 20, u8, 256), other}, 20, api.ErrRange)
		want(t, []api.Item{other, structure("S", 30), enum("S", 40)}, 40, api.ErrTwice)
		want(t, []api.Item{{Kind: kind, Name: "main", At: 9}}, 9, api.ErrForm)
		// Nobody's type is of such an item.
		want(t, []api.Item{mainAt(1), structure("S", 30, u8, named("x")), other}, 32, api.ErrName)
	}
}

// TestManyItems: a great program comes to its end.
func TestManyItems(t *testing.T) {
	l := []api.Item{mainAt(1)}
	for k := range 3000 {
		name := strconv.Itoa(k)
		l = append(l, structure("s"+name, 10*k, u8, box(named("s"+strconv.Itoa((k+7)%3000)))))
	}
	want(t, l, 0, api.OK)
	l = append(l, structure("s2999", 77))
	want(t, l, 77, api.ErrTwice)
	wide := structure("W", 9)
	wide.Params = params(9, many(511, unit)...)
	want(t, []api.Item{mainAt(1), wide, function("f", 1000, unit, many(40000, unit)...)}, 0, api.OK)
}
