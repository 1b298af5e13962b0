package types

import (
	"math"
	"testing"

	"ferrule/api"
)

// program has structs and enums of all sorts; those that are within themselves, or have what nobody knows, have names that begin with X.
func program() []api.Item {
	box := func(t api.Type) api.Type { return ty(api.TyBox, t) }
	return []api.Item{
		{Kind: api.ItFunc, Name: "P"}, {Kind: api.ItConst, Name: "P"}, {Kind: api.ItFunc, Name: "f"}, {Kind: api.ItConst, Name: "C"},
		structure("P", u8, array(3, ty(api.TyBool))),
		structure("Empty"),
		structure("Nest", named("P"), unit, named("P"), array(2, named("P"))),
		structure("Owner", u8, box(named("P"))),
		structure("Lender", ty(api.TyRef, box(u8)), ty(api.TyRef, named("nobody"))),
		structure("Changer", u8, ty(api.TyMut, u8)),
		structure("Boxed", box(named("Boxed"))),
		enum("Bare"),
		enum("Flag", nil, nil, of()),
		enum("List", nil, of(u8, box(named("List")))),
		enum("Shape", of(u8), of(named("P"), u8), nil, of(unit, unit, unit), of(u8, u8)),
		enum("Deep", of(named("Shape"), named("Shape")), of(array(7, u8))),
		structure("XSelf", named("XSelf")),
		structure("XLast", u8, named("XLast")),
		structure("XArray", array(1, named("XArray"))),
		structure("XTwo", named("XThree")),
		structure("XThree", array(2, named("XFour"))),
		enum("XFour", nil, of(u8, named("XTwo"))),
		enum("XEnum", of(named("XEnum"))),
		structure("XName", u8, named("nobody")),
		structure("XKind", ty(15), u8),
		enum("XNever", nil, of(u8), of(u8, ty(api.TyNever))),
		structure("None", array(0, named("None")), array(-1, named("nobody")), array(0, ty(api.TyNever))),
		enum("P", of(u8)), structure("Shape"), enum("Bare", of(unit, u8)),
		{Kind: 0, Name: "zero"}, {Kind: 5, Name: "five", Params: structure("", u8).Params},
	}
}

func TestWords(t *testing.T) {
	for _, c := range []struct {
		x    api.Type
		want held
	}{
		{unit, held{0, true}}, {ty(api.TyBool), held{1, true}}, {ty(api.TyI8), held{1, true}}, {ty(api.TyI16), held{1, true}},
		{ty(api.TyI32), held{1, true}}, {u8, held{1, true}}, {ty(api.TyU16), held{1, true}}, {ty(api.TyU32), held{1, true}},
		{ty(api.TyBox, u8), held{1, false}}, {ty(api.TyRef, u8), held{1, true}}, {ty(api.TyMut, u8), held{1, false}},
		{ty(api.TyBox, unit), held{1, false}}, {ty(api.TyRef, ty(api.TyMut, u8)), held{1, true}}, {ty(api.TyRef, ty(api.TyBox, u8)), held{1, true}},
		{ty(api.TyBox, array(200, u8)), held{1, false}}, {ty(api.TyRef, named("XSelf")), held{1, true}},
		{ty(api.TyBox, named("nobody")), held{1, false}}, {ty(api.TyRef, ty(0)), held{1, true}}, {ty(api.TyMut, ty(api.TyNever)), held{1, false}},
		{ty(api.TyRef, ty(api.TyBox)), held{1, true}},
		{named("P"), held{4, true}}, {named("Empty"), held{0, true}}, {named("Nest"), held{16, true}},
		{named("Owner"), held{2, false}}, {named("Lender"), held{2, true}}, {named("Changer"), held{2, false}}, {named("Boxed"), held{1, false}},
		{named("Bare"), held{1, true}}, {named("Flag"), held{1, true}}, {named("List"), held{3, false}},
		{named("Shape"), held{6, true}}, {named("Deep"), held{13, true}}, {named("None"), held{0, true}},
		{array(3, named("Shape")), held{18, true}}, {array(2, array(3, named("Owner"))), held{12, false}}, {array(5, named("Flag")), held{5, true}},
		// A type that is too great for words may be copied all the same.
		{array(128, u8), held{128, true}}, {array(129, u8), held{-1, true}}, {array(200, ty(api.TyBox, u8)), held{-1, false}},
		{ty(api.TyU8, ty(api.TyBox), ty(99)), held{1, true}}, {array(2, u8, named("nobody")), held{2, true}}, {ty(api.TyBox, u8, u8), held{1, false}},
		{api.Type{Kind: api.TyNamed, Name: "P", N: 7, Elem: of(ty(99))}, held{4, true}},
	} {
		if got := told(t, program(), c.x); got != c.want {
			t.Errorf("%v: %v, not %v", c.x, got, c.want)
		}
	}
}

func TestWordsRefused(t *testing.T) {
	for _, x := range []api.Type{
		{}, ty(-1), ty(api.TyNever), ty(15), ty(math.MaxInt), ty(math.MinInt), ty(0, u8), ty(api.TyNever, u8), ty(15, u8), ty(-12, u8),
		array(3), array(0), array(-1), ty(api.TyBox), ty(api.TyRef), ty(api.TyMut), {Kind: api.TyBox, Elem: of()},
		named(""), named("nobody"), named("f"), named("C"), named("zero"), named("five"), named("p"),
		named("XSelf"), named("XLast"), named("XArray"), named("XTwo"), named("XThree"), named("XFour"), named("XEnum"),
		named("XName"), named("XKind"), named("XNever"),
		array(1, named("nobody")), array(2, ty(0)), array(1, array(1, ty(api.TyBox))), array(2, named("XSelf")), array(1, array(3)),
	} {
		if got := told(t, program(), x); got != (held{-1, false}) {
			t.Errorf("%v: %v", x, got)
		}
	}
}

func TestWordsWithoutItems(t *testing.T) {
	for _, l := range [][]api.Item{nil, {}} {
		if got := told(t, l, named("P")); got != (held{-1, false}) {
			t.Error(got)
		}
		if got := told(t, l, array(3, ty(api.TyRef, named("P")))); got != (held{3, true}) {
			t.Error(got)
		}
	}
	// What lies behind a list's length is none of it.
	l := program()
	if got := told(t, l[:4], named("P")); got != (held{-1, false}) {
		t.Error(got)
	}
	two := structure("P", u8, named("nobody"))
	two.Params = two.Params[:1]
	choice := enum("E", of(u8, ty(99)), of(ty(99)))
	choice.Variants = choice.Variants[:1]
	choice.Variants[0].Types = choice.Variants[0].Types[:1]
	if got := told(t, []api.Item{two, choice}, array(2, named("P"))); got != (held{2, true}) {
		t.Error(got)
	}
	if got := told(t, []api.Item{two, choice}, array(2, named("E"))); got != (held{4, true}) {
		t.Error(got)
	}
	bare := ty(api.TyBox, u8)
	bare.Elem = bare.Elem[:0]
	if got := told(t, nil, bare); got != (held{-1, false}) {
		t.Error(got)
	}
}

func TestArraysOfAnyNumber(t *testing.T) {
	for _, c := range []struct {
		n    int
		elem api.Type
		want held
	}{
		{0, u8, held{0, true}}, {-1, u8, held{0, true}}, {math.MinInt, u8, held{0, true}},
		{0, named("nobody"), held{0, true}}, {-5, ty(api.TyNever), held{0, true}}, {0, named("XSelf"), held{0, true}}, {0, ty(api.TyBox, u8), held{0, true}},
		{-1, array(math.MaxInt), held{0, true}}, {0, ty(api.TyBox), held{0, true}},
		{1, array(0, ty(99)), held{0, true}}, {1, u8, held{1, true}},
		{511, unit, held{0, true}}, {512, unit, held{-1, false}}, {513, unit, held{-1, false}}, {math.MaxInt, unit, held{-1, false}},
		{511, u8, held{-1, true}}, {512, u8, held{-1, false}}, {511, ty(api.TyRef, u8), held{-1, true}},
		{math.MaxInt, u8, held{-1, false}}, {math.MaxInt32, u8, held{-1, false}}, {math.MaxInt - 1, array(0, u8), held{-1, false}},
		{1 << 32, unit, held{-1, false}}, {1<<32 + 1, u8, held{-1, false}}, {1 << 62, array(4, u8), held{-1, false}}, {1 << 63 / 3, array(2, unit), held{-1, false}},
		{math.MaxInt, array(math.MaxInt, u8), held{-1, false}}, {2, array(math.MaxInt, unit), held{-1, false}},
		{255, array(1, unit), held{0, true}}, {256, array(1, unit), held{-1, false}}, {73, array(6, unit), held{0, true}}, {74, array(6, unit), held{-1, false}},
		{6, array(84, unit), held{0, true}}, {6, array(85, unit), held{-1, false}}, {511, array(0, unit), held{0, true}}, {512, array(-9, unit), held{-1, false}},
	} {
		if got := told(t, program(), array(c.n, c.elem)); got != c.want {
			t.Errorf("[%v; %d]: %v, not %v", c.elem, c.n, got, c.want)
		}
	}
}

// TestMostWords comes to just MaxWords words, and to one more, by each sort of type.
func TestMostWords(t *testing.T) {
	sorts := map[string]func(n int) ([]api.Item, api.Type){
		"array":  func(n int) ([]api.Item, api.Type) { return nil, array(n, u8) },
		"arrays": func(n int) ([]api.Item, api.Type) { return nil, array(1, array(n, ty(api.TyRef, u8))) },
		"struct": func(n int) ([]api.Item, api.Type) { return []api.Item{structure("S", many(n, u8)...)}, named("S") },
		"enum":   func(n int) ([]api.Item, api.Type) { return []api.Item{enum("S", many(n-1, u8))}, named("S") },
		"variants": func(n int) ([]api.Item, api.Type) {
			return []api.Item{enum("S", of(u8), many(n-1, u8), many(n-2, u8))}, named("S")
		},
		"mixed": func(n int) ([]api.Item, api.Type) {
			return []api.Item{structure("S", array(n-101, u8), array(50, named("F")), unit, array(51, ty(api.TyBool))), enum("F", nil, nil)}, named("S")
		},
	}
	for name, sort := range sorts {
		for n := 126; n <= 131; n++ {
			l, x := sort(n)
			want := held{n, true}
			if n > api.MaxWords {
				want.words = -1
			}
			if got := told(t, l, x); got != want {
				t.Errorf("%s of %d: %v", name, n, got)
			}
		}
	}
}

// TestMostParts comes to just 4 times MaxWords parts, and to more, by each sort of type; none of them has a word but for enums' own.
func TestMostParts(t *testing.T) {
	alone := func(it api.Item) ([]api.Item, api.Type) { return []api.Item{it}, named(it.Name) }
	sorts := map[string]func(n int) ([]api.Item, api.Type){
		"array":  func(n int) ([]api.Item, api.Type) { return nil, array(n-1, unit) },
		"chain":  func(n int) ([]api.Item, api.Type) { return nil, wrapped(n-1, unit) },
		"none":   func(n int) ([]api.Item, api.Type) { return nil, wrapped(n-1, array(0, ty(99))) },
		"struct": func(n int) ([]api.Item, api.Type) { return alone(structure("S", many(n-1, unit)...)) },
		"nested": func(n int) ([]api.Item, api.Type) { return alone(structure("S", unit, array(n-4, unit), unit)) },
		"structs": func(n int) ([]api.Item, api.Type) {
			return []api.Item{structure("E"), structure("S", many(n-1, named("E"))...)}, named("S")
		},
		"last": func(n int) ([]api.Item, api.Type) { return alone(structure("S", array(n-3, unit), array(0, u8))) },
		"enum": func(n int) ([]api.Item, api.Type) { return alone(enum("S", many(n-1, unit))) },
		"variants": func(n int) ([]api.Item, api.Type) {
			return alone(enum("S", many(200, unit), nil, many(n-202, unit), of(unit), nil))
		},
		"arrays": func(n int) ([]api.Item, api.Type) {
			return alone(enum("S", of(array(100, unit)), of(array(99, unit), array(n-203, unit))))
		},
	}
	for name, sort := range sorts {
		for n := 509; n <= 515; n++ {
			l, x := sort(n)
			want := held{0, true}
			if len(l) == 1 && l[0].Kind == api.ItEnum {
				want.words = 1
			}
			if n > 4*api.MaxWords {
				want = held{-1, false}
			}
			if got := told(t, l, x); got != want {
				t.Errorf("%s of %d: %v", name, n, got)
			}
		}
	}
}

// TestPointersAreParts: a Box, & or &mut is one part, whatever it points to.
func TestPointersAreParts(t *testing.T) {
	for _, to := range []api.Type{u8, array(600, u8), ty(99), named("S")} {
		for kind := api.TyBox; kind <= api.TyMut; kind++ {
			for n := 510; n <= 514; n++ {
				// The struct, its two fields, twenty parts in the first one.
				l := []api.Item{structure("S", array(20, ty(kind, to)), array(n-23, unit))}
				want := held{20, kind == api.TyRef}
				if n > 4*api.MaxWords {
					want = held{-1, false}
				}
				if got := told(t, l, named("S")); got != want {
					t.Errorf("%d parts with kind %d: %v", n, kind, got)
				}
			}
		}
	}
}

// TestWithinItself: such a type has no end, and neither have the ways through it; the call has one.
func TestWithinItself(t *testing.T) {
	twice := func(name, next string) api.Item { return structure(name, named(next), named(next)) }
	l := []api.Item{
		twice("A", "B"), twice("B", "C"), twice("C", "A"),
		enum("E", of(named("E"), named("E")), of(named("E"))),
		structure("Held", ty(api.TyBox, named("Held")), ty(api.TyRef, named("A")), array(0, named("Held"))),
		enum("Cell", nil, of(u8, ty(api.TyBox, named("Cell")))),
		structure("Pair", named("Cell"), array(2, named("Cell"))),
	}
	for name, want := range map[string]held{
		"A": {-1, false}, "B": {-1, false}, "C": {-1, false}, "E": {-1, false}, "Held": {2, false}, "Cell": {3, false}, "Pair": {9, false},
	} {
		if got := told(t, l, named(name)); got != want {
			t.Errorf("%s: %v", name, got)
		}
		if got := told(t, l, ty(api.TyRef, named(name))); got != (held{1, true}) {
			t.Errorf("& of %s: %v", name, got)
		}
	}
	// Twice as many at each step: 2 to the 9 less 1 parts, and 2 to the 10 less 1.
	for steps, want := range map[int]held{8: {0, true}, 9: {-1, false}, 60: {-1, false}} {
		l := []api.Item{structure("Z")}
		last := "Z"
		for k := range steps {
			name := string(rune('A'+k%26)) + string(rune('a'+k/26))
			l = append(l, twice(name, last))
			last = name
		}
		if got := told(t, l, named(last)); got != want {
			t.Errorf("%d steps: %v", steps, got)
		}
	}
}

// TestTwoOfOneName: the first struct or enum is the item of a name.
func TestTwoOfOneName(t *testing.T) {
	s, e := structure("T", many(5, u8)...), enum("T", of(ty(api.TyBox, u8), u8))
	other := structure("T", u8)
	f, c := api.Item{Kind: api.ItFunc, Name: "T", Params: s.Params}, api.Item{Kind: api.ItConst, Name: "T"}
	for _, k := range []struct {
		l    []api.Item
		want held
	}{
		{[]api.Item{s, e}, held{5, true}}, {[]api.Item{e, s}, held{3, false}}, {[]api.Item{s, other}, held{5, true}}, {[]api.Item{other, s}, held{1, true}},
		{[]api.Item{f, c, e, s}, held{3, false}}, {[]api.Item{c, f, s, e}, held{5, true}}, {[]api.Item{f, c}, held{-1, false}},
	} {
		if got := told(t, k.l, named("T")); got != k.want {
			t.Errorf("%v, not %v", got, k.want)
		}
	}
	// Two fields, or variants, of one name count both.
	two := structure("S", u8, array(2, u8))
	two.Params[1].Name = two.Params[0].Name
	both := enum("E", nil, of(u8, u8))
	both.Variants[1].Name = both.Variants[0].Name
	if got := told(t, []api.Item{two, both}, named("S")); got != (held{3, true}) {
		t.Error(got)
	}
	if got := told(t, []api.Item{two, both}, named("E")); got != (held{3, true}) {
		t.Error(got)
	}
}
