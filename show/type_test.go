package show

import (
	"math"
	"strings"
	"testing"

	"ferrule/api"
)

// P4.1

func wantType(t *testing.T, of api.Type, want string) {
	t.Helper()
	if got := Type(of); got != want {
		t.Errorf("Type(%v) = %q, not %q", of, got, want)
	}
}

func TestTypeTellsWords(t *testing.T) {
	words := map[int]string{
		api.TyUnit: "()", api.TyBool: "bool", api.TyI8: "i8", api.TyI16: "i16", api.TyI32: "i32", api.TyU8: "u8", api.TyU16: "u16", api.TyU32: "u32",
	}
	for kind, want := range words {
		wantType(t, ty(kind), want)
		// What such a type has beside its kind is not told.
		wantType(t, api.Type{Kind: kind, Name: "x", N: 3, Elem: []api.Type{ty(api.TyU8)}}, want)
	}
}

func TestTypeTellsNames(t *testing.T) {
	for _, name := range []string{"S", "_", "Box", "u8", "fn", "a b", "?", ""} {
		wantType(t, tyNamed(name), name)
	}
	wantType(t, api.Type{Kind: api.TyNamed, Name: "S", N: 1, Elem: []api.Type{ty(api.TyU8)}}, "S")
}

func TestTypeTellsTypesOfOthers(t *testing.T) {
	wantType(t, ty(api.TyBox, tyArray(3, ty(api.TyU8))), "Box<[u8; 3]>")
	wantType(t, tyArray(0, ty(api.TyBool)), "[bool; 0]")
	wantType(t, tyArray(65535, ty(api.TyUnit)), "[(); 65535]")
	wantType(t, tyArray(-1, ty(api.TyUnit)), "[(); -1]")
	wantType(t, tyArray(math.MinInt, ty(api.TyUnit)), "[(); -9223372036854775808]")
	wantType(t, ty(api.TyRef, tyNamed("S")), "&S")
	wantType(t, ty(api.TyMut, tyNamed("S")), "&mut S")
	wantType(t, ty(api.TyBox, ty(api.TyBox, ty(api.TyBox, ty(api.TyI16)))), "Box<Box<Box<i16>>>")
	wantType(t, ty(api.TyRef, ty(api.TyMut, ty(api.TyRef, ty(api.TyI8)))), "&&mut &i8")
	wantType(t, ty(api.TyMut, tyArray(2, ty(api.TyBox, tyArray(7, ty(api.TyRef, ty(api.TyU32)))))), "&mut [Box<[&u32; 7]>; 2]")
	wantType(t, api.Type{Kind: api.TyRef, Name: "x", N: 9, Elem: []api.Type{ty(api.TyI8)}}, "&i8")
}

func TestTypeTellsWhatHasNoForm(t *testing.T) {
	for _, kind := range []int{0, -1, api.TyNever, api.TyNever + 1, math.MaxInt, math.MinInt, api.TyArray, api.TyBox, api.TyRef, api.TyMut} {
		wantType(t, ty(kind), "?")
		wantType(t, api.Type{Kind: kind, Name: "S", N: 3, Elem: []api.Type{}}, "?")
		wantType(t, ty(api.TyBox, ty(kind)), "Box<?>")
		wantType(t, tyArray(2, ty(api.TyMut, ty(kind))), "[&mut ?; 2]")
	}
	wantType(t, ty(api.TyNever, ty(api.TyU8)), "?")
}

func TestTypeTellsWhatIsDeep(t *testing.T) {
	const deep = 60000
	of := ty(api.TyU8)
	for range deep {
		of = ty(api.TyBox, of)
	}
	wantType(t, of, strings.Repeat("Box<", deep)+"u8"+strings.Repeat(">", deep))
}
