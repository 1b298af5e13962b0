package types

import (
	"math"
	"reflect"
	"strconv"
	"testing"

	"ferrule/api"
)

// fieldTold is what Field answers.
type fieldTold struct {
	at    int
	f     api.Type
	ahead int
	ok    bool
}

func askField(l []api.Item, t api.Type, name string) fieldTold {
	at, f, ahead, ok := Field(l, t, name)
	return fieldTold{at, f, ahead, ok}
}

func TestField(t *testing.T) {
	pairs := array(3, named("Pair"))
	list := of(u8, pairs, unit, ty(api.TyBox, named("nobody")), array(128, u8), array(0, ty(99)), named("Choice"), ty(api.TyMut, ty(api.TyBox, u8)), array(2, array(2, u8)))
	l := []api.Item{
		{Kind: api.ItFunc, Name: "S", Params: structure("", many(3, u8)...).Params},
		structure("S", list...), structure("Pair", u8, u8), enum("Choice", nil, many(4, u8)),
		{Kind: api.ItConst, Name: "Choice", Params: structure("", u8).Params},
	}
	ahead := []int{0, 1, 7, 7, 8, 136, 136, 141, 142}
	for k, f := range list {
		want := fieldTold{k, f, ahead[k], true}
		if got := askField(l, named("S"), "f"+strconv.Itoa(k)); !reflect.DeepEqual(got, want) {
			t.Errorf("field %d: %v, not %v", k, got, want)
		}
	}
	for _, x := range []api.Type{
		named("s"), named(""), named("nobody"), named("Choice"), {Kind: api.TyArray, Name: "S", N: 1, Elem: of(named("S"))}, {Name: "S"},
		ty(api.TyBox, named("S")), ty(api.TyRef, named("S")), ty(api.TyMut, named("S")), {Kind: api.TyBox, Name: "S"}, u8, {Kind: math.MinInt, Name: "S"},
	} {
		if got := askField(l, x, "f0"); !reflect.DeepEqual(got, fieldTold{}) {
			t.Errorf("a field of %v: %v", x, got)
		}
	}
	for _, name := range []string{"", "f", "F0", "f9", "f00", "V0", "S"} {
		if got := askField(l, named("S"), name); !reflect.DeepEqual(got, fieldTold{}) {
			t.Errorf("field %q: %v", name, got)
		}
	}
	if got := askField(nil, named("S"), "f0"); !reflect.DeepEqual(got, fieldTold{}) {
		t.Error(got)
	}
	if got := askField(l, api.Type{Kind: api.TyNamed, Name: "S", N: -3, Elem: of(ty(99))}, "f1"); !reflect.DeepEqual(got, fieldTold{1, pairs, 1, true}) {
		t.Error(got)
	}
}

// TestFieldRefused: a field that Words refuses is in the way of itself, and of those behind it, not of those ahead.
func TestFieldRefused(t *testing.T) {
	bad := []api.Type{
		named("nobody"), ty(0), ty(api.TyNever), array(129, u8), array(512, unit), array(math.MaxInt, u8), named("S"), array(1, named("S")), array(2), ty(api.TyBox), named("Wide"),
	}
	for _, x := range bad {
		list := of(u8, array(2, u8), x, u8, ty(api.TyBool))
		l := []api.Item{structure("S", list...), structure("Wide", array(100, u8), array(29, u8))}
		if _, ok := Words(l, named("S")); ok {
			t.Errorf("Words takes a struct with %v", x)
		}
		for k, f := range list {
			want := fieldTold{}
			if k < 2 {
				want = fieldTold{k, f, k, true}
			}
			if got := askField(l, named("S"), "f"+strconv.Itoa(k)); !reflect.DeepEqual(got, want) {
				t.Errorf("%v: field %d: %v", x, k, got)
			}
		}
	}
	for _, k := range []int{0, 4} {
		list := many(5, u8)
		list[k] = ty(99)
		l := []api.Item{structure("S", list...)}
		for at := range list {
			if got := askField(l, named("S"), "f"+strconv.Itoa(at)); got.ok != (at < k) {
				t.Errorf("%d refused: field %d: %v", k, at, got)
			}
		}
	}
}

// TestFieldOfGreatStruct: the struct itself may be too great, as long as each field is not.
func TestFieldOfGreatStruct(t *testing.T) {
	l := []api.Item{structure("S", many(1000, array(128, u8))...)}
	for _, k := range []int{0, 1, 2, 500, 999} {
		want := fieldTold{k, array(128, u8), 128 * k, true}
		if got := askField(l, named("S"), "f"+strconv.Itoa(k)); !reflect.DeepEqual(got, want) {
			t.Errorf("field %d: %v", k, got)
		}
	}
}

func TestFirstOfTwo(t *testing.T) {
	two := structure("S", array(2, u8), u8, unit, ty(99))
	two.Params[2].Name, two.Params[3].Name = "f1", "f0"
	choice := enum("E", nil, of(u8), of(unit), nil)
	choice.Variants[2].Name, choice.Variants[3].Name = "V1", "V0"
	l := []api.Item{two, choice, enum("S", of(u8)), structure("E", u8), structure("S", unit), enum("E", of(unit), of(unit))}
	if got := askField(l, named("S"), "f1"); !reflect.DeepEqual(got, fieldTold{1, u8, 2, true}) {
		t.Error(got)
	}
	if got := askField(l, named("S"), "f0"); !reflect.DeepEqual(got, fieldTold{0, array(2, u8), 0, true}) {
		t.Error(got)
	}
	// Where the first one is refused, the second one of its name is not asked.
	late := structure("L", ty(99), u8)
	late.Params[1].Name = "f0"
	if got := askField([]api.Item{late}, named("L"), "f0"); got.ok {
		t.Error(got)
	}
	for name, want := range map[string]variantTold{"V0": {0, nil, true}, "V1": {1, of(u8), true}, "V2": {}} {
		if got := askVariant(l, named("E"), name); !reflect.DeepEqual(got, want) {
			t.Errorf("%s: %v", name, got)
		}
	}
	// The item of a name is its first struct or enum: one of the other kind behind it has no say.
	if got := askField(l, named("E"), "f0"); got.ok {
		t.Error(got)
	}
	if got := askVariant(l, named("S"), "V0"); got.ok {
		t.Error(got)
	}
}

// variantTold is what Variant answers.
type variantTold struct {
	at    int
	parts []api.Type
	ok    bool
}

func askVariant(l []api.Item, t api.Type, name string) variantTold {
	at, parts, ok := Variant(l, t, name)
	if len(parts) == 0 {
		parts = nil
	}
	return variantTold{at, parts, ok}
}

func TestVariant(t *testing.T) {
	lists := [][]api.Type{nil, of(u8), of(unit, array(3, named("P")), ty(api.TyBox, named("E"))), of(), of(named("nobody"), ty(99)), of(array(1000, u8)), of(named("E"))}
	l := []api.Item{
		{Kind: api.ItFunc, Name: "E", Variants: enum("", of(unit)).Variants}, {Kind: api.ItConst, Name: "E"},
		enum("E", lists...), structure("P", u8), enum("Bare"),
	}
	l[3].Variants = enum("", of(u8)).Variants
	for k, list := range lists {
		want := variantTold{k, list, true}
		if len(list) == 0 {
			want.parts = nil
		}
		if got := askVariant(l, named("E"), "V"+strconv.Itoa(k)); !reflect.DeepEqual(got, want) {
			t.Errorf("variant %d: %v, not %v", k, got, want)
		}
	}
	for _, x := range []api.Type{
		named("e"), named(""), named("nobody"), named("P"), named("Bare"), {Kind: api.TyArray, Name: "E", N: 1, Elem: of(named("E"))}, {Name: "E"},
		ty(api.TyBox, named("E")), ty(api.TyRef, named("E")), ty(api.TyMut, named("E")), {Kind: api.TyMut, Name: "E"}, u8, {Kind: math.MaxInt, Name: "E"},
	} {
		if got := askVariant(l, x, "V0"); !reflect.DeepEqual(got, variantTold{}) {
			t.Errorf("a variant of %v: %v", x, got)
		}
	}
	for _, name := range []string{"", "V", "v0", "V7", "V00", "f0", "E::V0"} {
		if got := askVariant(l, named("E"), name); !reflect.DeepEqual(got, variantTold{}) {
			t.Errorf("variant %q: %v", name, got)
		}
	}
	if got := askVariant([]api.Item{}, named("E"), "V0"); got.ok {
		t.Error(got)
	}
	if got := askVariant(l, api.Type{Kind: api.TyNamed, Name: "E", N: 4, Elem: of(u8)}, "V1"); !reflect.DeepEqual(got, variantTold{1, of(u8), true}) {
		t.Error(got)
	}
}

// spoil writes over a list of types, its spare room, and all that it holds.
func spoil(list []api.Type) {
	for _, t := range list {
		spoil(t.Elem)
	}
	for k := range list[:cap(list)] {
		list[:cap(list)][k] = ty(77)
	}
}

// TestNewMemory: what is handed out shares nothing with the items, far down neither.
func TestNewMemory(t *testing.T) {
	parts := func() []api.Type {
		deep := ty(api.TyBox, array(4, ty(api.TyBox, u8), ty(api.TyRef, unit)), u8)
		list := append(make([]api.Type, 0, 8), unit, deep, wrapped(3, named("S")))
		return list[:2]
	}
	items := func() []api.Item {
		s, e := structure("S", parts()...), enum("E", nil, parts())
		s.Params = s.Params[:2]
		return []api.Item{s, e}
	}
	l := items()
	_, f, _, ok := Field(l, named("S"), "f1")
	_, list, is := Variant(l, named("E"), "V1")
	if !ok || !is || !Same(f, parts()[1]) || len(list) != 2 || !Same(list[1], f) {
		t.Fatal(f, ok, list, is)
	}
	spoil(f.Elem)
	if !reflect.DeepEqual(l, items()) || !Same(list[1], parts()[1]) {
		t.Error("a field's type shares memory")
	}
	spoil(list)
	spare := func(l []api.Item) []api.Type { return l[1].Variants[1].Types[:3] }
	if !reflect.DeepEqual(l, items()) || !reflect.DeepEqual(spare(l), spare(items())) {
		t.Error("a variant's types share memory")
	}
}
