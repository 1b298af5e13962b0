package show

import (
	"testing"

	"ferrule/api"
)

// P4.2

func wantAlike(t *testing.T, a, b api.Expr, want bool) {
	t.Helper()
	if Alike(a, b) != want || Alike(b, a) != want {
		t.Errorf("Alike(%s, %s) = %v, %v the other way round; want %v", brief(a), brief(b), Alike(a, b), Alike(b, a), want)
	}
}

// far is a tree with another one in it, many levels down.
func far(x api.Expr) api.Expr {
	for range 500 {
		x = ex(api.ExCall, "f", named("a"), x, named("b"))
	}
	return x
}

func TestAlikeTellsTreesThatDifferInOneThing(t *testing.T) {
	whole := api.Expr{
		Kind: api.ExCast, Num: 3, Text: "x",
		Kids: []api.Expr{named("a"), named("b")},
		Ty:   []api.Type{{Kind: api.TyArray, Name: "n", N: 4, Elem: []api.Type{ty(api.TyU8), tyNamed("S")}}, ty(api.TyBool)},
	}
	wantAlike(t, whole, copyTree(whole), true)
	wantAlike(t, far(whole), far(copyTree(whole)), true)
	for i, change := range []func(x *api.Expr){
		func(x *api.Expr) { x.Kind = api.ExBin },
		func(x *api.Expr) { x.Kind = 0 },
		func(x *api.Expr) { x.Num = -3 },
		func(x *api.Expr) { x.Num = 0 },
		func(x *api.Expr) { x.Text = "X" },
		func(x *api.Expr) { x.Text = "" },
		func(x *api.Expr) { x.Text = "x " },
		func(x *api.Expr) { x.Kids = nil },
		func(x *api.Expr) { x.Kids = x.Kids[:1] },
		func(x *api.Expr) { x.Kids = x.Kids[1:] },
		func(x *api.Expr) { x.Kids = append(x.Kids, named("b")) },
		func(x *api.Expr) { x.Kids[0], x.Kids[1] = x.Kids[1], x.Kids[0] },
		func(x *api.Expr) { x.Kids[1].Text = "c" },
		func(x *api.Expr) { x.Kids[0].Kind = api.ExCall },
		func(x *api.Expr) { x.Kids[0].Kids = []api.Expr{{}} },
		func(x *api.Expr) { x.Ty = nil },
		func(x *api.Expr) { x.Ty = x.Ty[:1] },
		func(x *api.Expr) { x.Ty = append(x.Ty, api.Type{}) },
		func(x *api.Expr) { x.Ty[0], x.Ty[1] = x.Ty[1], x.Ty[0] },
		func(x *api.Expr) { x.Ty[1].Kind = api.TyI8 },
		func(x *api.Expr) { x.Ty[1].Name = "n" },
		func(x *api.Expr) { x.Ty[1].N = 1 },
		func(x *api.Expr) { x.Ty[0].Name = "" },
		func(x *api.Expr) { x.Ty[0].N = 5 },
		func(x *api.Expr) { x.Ty[0].Elem = nil },
		func(x *api.Expr) { x.Ty[0].Elem = x.Ty[0].Elem[:1] },
		func(x *api.Expr) { x.Ty[0].Elem[0].Kind = api.TyU16 },
		func(x *api.Expr) { x.Ty[0].Elem[1].Name = "T" },
		func(x *api.Expr) { x.Ty[0].Elem[1].N = 1 },
		func(x *api.Expr) { x.Ty[0].Elem[1].Elem = []api.Type{{}} },
	} {
		other := copyTree(whole)
		change(&other)
		if Alike(whole, other) || Alike(other, whole) {
			t.Errorf("change %d is not told", i)
		}
		wantAlike(t, far(whole), far(other), false)
		wantAlike(t, other, other, true)
	}
}

func TestAlikeAsksForNothingElse(t *testing.T) {
	x := parsed(t, "if a { f(1u8, -b) as Box<u8> } else { S { x: [1; 3] } }")
	wantAlike(t, x, parsed(t, " if(a){(f(1u8,(-b),)as Box< u8 >)} else {S{x:[(1);3],}} // x"), true)
	other := copyTree(x)
	other.At, other.Type = 77, ty(api.TyU8)
	other.Kids[1].At, other.Kids[1].Type = -1, tyNamed("T")
	wantAlike(t, x, other, true)
}

func TestAlikeTakesNilAndEmptyListsAsTheSame(t *testing.T) {
	a := api.Expr{Kind: api.ExLet, Kids: []api.Expr{}, Ty: []api.Type{{Kind: api.TyU8, Elem: []api.Type{}}}}
	b := api.Expr{Kind: api.ExLet, Ty: []api.Type{{Kind: api.TyU8}}}
	wantAlike(t, a, b, true)
	wantAlike(t, api.Expr{Ty: []api.Type{}}, api.Expr{}, true)
	wantAlike(t, api.Expr{}, api.Expr{}, true)
	wantAlike(t, api.Expr{}, named(""), false)
}

func TestAlikeGoesAllTheWayDown(t *testing.T) {
	const deep = 60000
	a, b, c := named("x"), named("x"), named("y")
	for range deep {
		a, b, c = ex(api.ExNeg, "", a), ex(api.ExNeg, "", b), ex(api.ExNeg, "", c)
	}
	if !Alike(a, b) || Alike(a, c) {
		t.Errorf("%d levels: %v, %v; want true, false", deep, Alike(a, b), Alike(a, c))
	}
	s, u := ty(api.TyU8), ty(api.TyU16)
	for range deep {
		s, u = ty(api.TyBox, s), ty(api.TyBox, u)
	}
	if x := named("x"); !Alike(typed(x, s), typed(x, s)) || Alike(typed(x, s), typed(x, u)) {
		t.Errorf("%d levels of a type are not told apart", deep)
	}
}
