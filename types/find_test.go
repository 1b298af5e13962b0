package types

import (
	"testing"

	"ferrule/api"
)

func TestFind(t *testing.T) {
	item := func(kind int, name string) api.Item { return api.Item{Kind: kind, Name: name} }
	l := []api.Item{
		item(api.ItFunc, "a"), item(api.ItStruct, "a"), item(api.ItStruct, "b"), item(api.ItEnum, "b"),
		item(api.ItEnum, "a"), item(api.ItStruct, "a"), item(api.ItConst, ""), item(0, "n"), item(-7, "a"), item(api.ItFunc, "z"),
	}
	for _, c := range []struct {
		kind int
		name string
		at   int
	}{
		{api.ItFunc, "a", 0}, {api.ItStruct, "a", 1}, {api.ItStruct, "b", 2}, {api.ItEnum, "b", 3}, {api.ItEnum, "a", 4},
		{api.ItConst, "", 6}, {0, "n", 7}, {-7, "a", 8}, {api.ItFunc, "z", 9},
		{api.ItFunc, "b", -1}, {api.ItConst, "a", -1}, {api.ItStruct, "", -1}, {api.ItStruct, "A", -1}, {api.ItStruct, "aa", -1},
		{0, "a", -1}, {5, "a", -1}, {api.ItFunc, "zz", -1},
	} {
		if at := Find(l, c.kind, c.name); at != c.at {
			t.Errorf("Find %d %q = %d, not %d", c.kind, c.name, at, c.at)
		}
		if at := Find(nil, c.kind, c.name); at != -1 {
			t.Errorf("Find %d %q among no items = %d", c.kind, c.name, at)
		}
	}
	if at := Find([]api.Item{}, 0, ""); at != -1 {
		t.Error(at)
	}
	// What lies behind the list's length is none of it.
	if at := Find(l[:1], api.ItStruct, "a"); at != -1 {
		t.Error(at)
	}
}

// differing are types of which no two are alike.
func differing() []api.Type {
	list := []api.Type{
		{}, {Kind: -1}, {Name: "a"}, {N: 1}, {N: -1}, named("a"), named("b"), named(""), {Kind: api.TyNamed, Name: "a", N: 1},
		array(1, u8), array(2, u8), array(1, unit), array(1), array(1, u8, u8), array(1, u8, unit), array(1, unit, u8),
		ty(api.TyUnit, unit), ty(api.TyUnit, u8), ty(api.TyBox, api.Type{}), ty(api.TyBox, ty(0, api.Type{})),
	}
	for kind := api.TyUnit; kind <= api.TyNever; kind++ {
		if kind != api.TyArray && kind != api.TyNamed {
			list = append(list, ty(kind))
		}
	}
	for kind := api.TyBox; kind <= api.TyMut; kind++ {
		list = append(list, ty(kind, u8), ty(kind, ty(api.TyBox, array(3, named("a")))), ty(kind, ty(api.TyBox, array(3, named("b")))))
	}
	for n := range 3 {
		list = append(list, wrapped(2000+n, u8), wrapped(2000+n, unit))
	}
	return list
}

func TestSame(t *testing.T) {
	for j, a := range differing() {
		for k, b := range differing() {
			if Same(a, b) != (j == k) {
				t.Errorf("Same of %d and %d", j, k)
			}
		}
	}
	// A list without an element may be nil or empty.
	empty := api.Type{Kind: api.TyU8, Elem: []api.Type{}}
	if !Same(u8, empty) || !Same(empty, u8) || !Same(ty(api.TyBox, u8), ty(api.TyBox, empty)) {
		t.Error("an empty list and none")
	}
	// What lies behind the list's length is none of it.
	two := array(1, u8, unit)
	two.Elem = two.Elem[:1]
	if !Same(two, array(1, u8)) {
		t.Error("spare room was read")
	}
}

func TestSameDeep(t *testing.T) {
	a, b, c := wrapped(1<<16, u8), wrapped(1<<16, u8), wrapped(1<<16, unit)
	if !Same(a, b) || Same(a, c) {
		t.Error("far down")
	}
}
