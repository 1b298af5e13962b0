package names

import (
	"math"
	"testing"

	"ferrule/api"
)

// shelf has structs and enums of all sorts; those that types.Words refuses have names that begin with X.
func shelf() []api.Item {
	return []api.Item{
		function("f", 0, unit), constant("K", 0, u8, 1), {Kind: 0, Name: "zero"}, {Kind: 5, Name: "five"},
		structure("S", 0, u8, array(3, u8)), enum("E", 0, nil, of(u8)), structure("Empty", 0), enum("Bare", 0),
		structure("Wide", 0, array(128, u8)), structure("XWide", 0, array(128, u8), u8),
		structure("Node", 0, box(named("Node"))), enum("List", 0, nil, of(u8, box(named("List")))),
		structure("None", 0, array(0, named("None"))),
		structure("XSelf", 0, named("XSelf")), structure("XOne", 0, named("XTwo")), enum("XTwo", 0, nil, of(array(2, named("XOne")))),
		structure("XName", 0, named("nobody")), structure("XNever", 0, ty(api.TyNever)),
	}
}

func TestTypesThatMayBe(t *testing.T) {
	for _, x := range []api.Type{
		unit, ty(api.TyBool), ty(api.TyI8), ty(api.TyI16), ty(api.TyI32), u8, ty(api.TyU16), ty(api.TyU32),
		named("S"), named("E"), named("Empty"), named("Bare"), named("Wide"), named("Node"), named("List"), named("None"),
		array(1, u8), array(128, u8), array(511, unit), array(0, u8), array(-1, u8), array(math.MinInt, named("S")), array(2, array(64, u8)), array(32, named("S")), array(64, named("E")),
		box(u8), box(box(unit)), box(named("Node")), box(array(128, u8)), array(128, box(u8)), array(128, box(array(128, u8))), box(array(2, box(named("S")))),
		wrapped(511, func(t api.Type) api.Type { return array(1, t) }, unit), wrapped(510, func(t api.Type) api.Type { return array(1, t) }, named("Empty")),
		// What a type has beside what its kind needs does not matter.
		ty(api.TyU8, ty(99)), {Kind: api.TyNamed, Name: "S", N: 9999, Elem: of(ty(api.TyRef))}, {Kind: api.TyBox, Name: "nobody", N: 9999, Elem: of(u8, ty(99), ref(u8))},
		array(2, u8, named("nobody")), {Kind: api.TyUnit, Name: "nobody"},
	} {
		for _, refs := range []bool{false, true} {
			wantType(t, shelf(), x, refs, api.OK)
		}
		for _, borrowed := range []api.Type{ref(x), mut(x)} {
			wantType(t, shelf(), borrowed, true, api.OK)
			wantType(t, shelf(), borrowed, false, api.ErrBorrow)
		}
	}
}

// TestBorrows: only the outermost type may be a borrow, and that just with refs.
func TestBorrows(t *testing.T) {
	for _, kind := range []int{api.TyRef, api.TyMut} {
		for _, x := range []api.Type{
			box(ty(kind, u8)), array(2, ty(kind, u8)), ref(ty(kind, u8)), mut(ty(kind, u8)), ref(box(ty(kind, u8))), mut(array(3, ty(kind, named("S")))),
			wrapped(40, box, ty(kind, u8)), array(0, ty(kind, u8)), box(array(0, box(ty(kind, u8)))), ref(ref(ty(kind, u8))),
			// It is told ahead of what is wrong further inwards, with itself otherwise, and with anybody's words.
			box(ty(kind)), box(ty(kind, named("nobody"))), box(ty(kind, ty(99))), array(999, ty(kind, u8)), array(999, ty(kind, array(999, u8))), array(math.MaxInt, ty(kind, named("XSelf"))),
		} {
			wantType(t, shelf(), x, true, api.ErrBorrow)
			wantType(t, shelf(), x, false, api.ErrBorrow)
		}
		// What a borrow holds is asked for where it may be, not where it may not.
		for _, c := range []struct {
			x api.Type
			e api.Errno
		}{
			{ty(kind), api.ErrForm}, {api.Type{Kind: kind, Elem: of()}, api.ErrForm}, {ty(kind, named("nobody")), api.ErrName}, {ty(kind, ty(0)), api.ErrForm},
			{ty(kind, box(named("f"))), api.ErrName}, {ty(kind, array(129, u8)), api.ErrSize}, {ty(kind, named("XSelf")), api.ErrSize}, {ty(kind, ref(named("nobody"))), api.ErrBorrow},
		} {
			wantType(t, shelf(), c.x, true, c.e)
			wantType(t, shelf(), c.x, false, api.ErrBorrow)
		}
	}
}

// around is a type by itself, and at several places further inwards.
func around(x api.Type) []api.Type {
	return of(x, box(x), array(2, x), array(0, x), array(-7, x), box(box(x)), array(1, box(array(3, x))), wrapped(60, box, x), wrapped(3000, box, x),
		wrapped(300, func(t api.Type) api.Type { return box(array(5, t)) }, x))
}

func wantEverywhere(t *testing.T, x api.Type, e api.Errno) {
	t.Helper()
	for _, y := range around(x) {
		wantType(t, shelf(), y, false, e)
		wantType(t, shelf(), y, true, e)
		wantType(t, shelf(), ref(y), true, e)
		wantType(t, shelf(), mut(y), true, e)
	}
}

func TestNamesThatNobodyHas(t *testing.T) {
	for _, name := range []string{"nobody", "", "f", "K", "zero", "five", "s", "S ", "SS", "Box", "u8", "main"} {
		wantEverywhere(t, named(name), api.ErrName)
		wantEverywhere(t, api.Type{Kind: api.TyNamed, Name: name, Elem: of(ty(99))}, api.ErrName)
		wantType(t, nil, named(name), false, api.ErrName)
		wantType(t, []api.Item{}, box(named(name)), true, api.ErrName)
	}
	// The name comes ahead of the words of those around it.
	for _, x := range []api.Type{array(129, named("nobody")), array(math.MaxInt, named("nobody")), box(array(1000, box(named("nobody"))))} {
		wantEverywhere(t, x, api.ErrName)
	}
}

func TestNoTypes(t *testing.T) {
	for _, x := range []api.Type{
		{}, ty(0), ty(-1), ty(api.TyNever), ty(15), ty(99), ty(math.MaxInt), ty(math.MinInt), ty(0, u8), ty(api.TyNever, u8), ty(15, ref(u8)), ty(-12, named("nobody")),
		{Kind: 0, Name: "S"}, {Kind: api.TyNever, Name: "S"}, {Kind: 266, Elem: of(u8)},
		array(3), array(0), array(-1), {Kind: api.TyArray, N: 2, Elem: of()}, ty(api.TyBox), {Kind: api.TyBox, Name: "S", N: 1},
		array(999, ty(0)), array(129, array(3)), array(math.MaxInt, ty(api.TyBox)), box(array(600, box(ty(api.TyNever)))),
	} {
		wantEverywhere(t, x, api.ErrForm)
	}
	bare := box(u8)
	bare.Elem = bare.Elem[:0]
	wantEverywhere(t, bare, api.ErrForm)
}

func TestTypesWithoutWords(t *testing.T) {
	for _, x := range []api.Type{
		array(129, u8), array(math.MaxInt, u8), array(512, unit), array(math.MaxInt, unit), array(33, named("S")), array(65, named("E")), array(2, array(65, u8)), array(129, box(u8)),
		array(2, named("Wide")), named("XWide"), named("XSelf"), named("XOne"), named("XTwo"), named("XName"), named("XNever"),
		wrapped(512, func(t api.Type) api.Type { return array(1, t) }, unit),
	} {
		wantEverywhere(t, x, api.ErrSize)
	}
}

// TestDeepTypes: types within as many others as may be.
func TestDeepTypes(t *testing.T) {
	const most = 1<<16 - 2
	none := func(t api.Type) api.Type { return array(0, t) }
	one := func(t api.Type) api.Type { return array(1, t) }
	for _, c := range []struct {
		wrap func(api.Type) api.Type
		x    api.Type
		e    api.Errno
	}{
		{box, u8, api.OK}, {none, named("S"), api.OK}, {box, named("nobody"), api.ErrName}, {none, ty(0), api.ErrForm}, {none, ref(u8), api.ErrBorrow}, {box, named("XSelf"), api.ErrSize},
		{one, u8, api.ErrSize}, {one, ty(99), api.ErrForm}, {one, mut(u8), api.ErrBorrow}, {ref, u8, api.ErrBorrow},
	} {
		if got := Type(shelf(), wrapped(most, c.wrap, c.x), true); got != c.e {
			t.Errorf("deep around %s: %d, not %d", tellType(c.x), int(got), int(c.e))
		}
	}
}

// TestWhichItemIsAType: the first struct or enum of a name is it, and others of that name, or behind the list's length, are none.
func TestWhichItemIsAType(t *testing.T) {
	wide, small := structure("T", 0, array(129, u8)), enum("T", 0, of(u8))
	f := function("T", 0, unit)
	for _, c := range []struct {
		l []api.Item
		e api.Errno
	}{
		{[]api.Item{wide, small}, api.ErrSize}, {[]api.Item{small, wide}, api.OK}, {[]api.Item{f, small, wide}, api.OK}, {[]api.Item{f}, api.ErrName},
		{[]api.Item{f, small, wide}[:1], api.ErrName}, {[]api.Item{small, wide}[:0], api.ErrName},
	} {
		wantType(t, c.l, named("T"), false, c.e)
		wantType(t, c.l, ref(box(named("T"))), true, c.e)
	}
}
