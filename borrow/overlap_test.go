package borrow

import (
	"math"
	"math/rand"
	"slices"
	"testing"

	"ferrule/api"
)

// variable, field, element and held make places.
func variable(slot int) api.Expr { return api.Expr{Kind: api.ExVar, Num: slot} }

func field(x api.Expr, n int) api.Expr {
	return api.Expr{Kind: api.ExField, Num: n, Kids: []api.Expr{x}}
}

func element(x, index api.Expr) api.Expr {
	return api.Expr{Kind: api.ExIndex, Kids: []api.Expr{x, index}}
}

func held(x api.Expr) api.Expr { return api.Expr{Kind: api.ExDeref, Kids: []api.Expr{x}} }

func number(n int) api.Expr { return api.Expr{Kind: api.ExInt, Num: n} }

// wantOverlap asks of two trees in both orders.
func wantOverlap(t *testing.T, a, b api.Expr, want bool) {
	t.Helper()
	if Overlap(a, b) != want || Overlap(b, a) != want {
		t.Errorf("%+v and %+v: %t and %t, not %t", a, b, Overlap(a, b), Overlap(b, a), want)
	}
}

func TestOverlap(t *testing.T) {
	x, y, other := variable(3), variable(4), api.Expr{Kind: api.ExCall, Text: "f"}
	for _, two := range [][2]api.Expr{{x, x}, {variable(0), variable(0)}, {variable(-1), variable(-1)}, {x, field(x, 0)}, {x, element(x, number(1))}, {x, element(x, other)}, {x, held(x)}, {x, field(held(element(x, y)), 2)}, {field(x, 1), field(x, 1)}, {field(x, 1), field(field(x, 1), 2)}, {held(x), held(x)}, {held(x), held(held(x))}, {held(x), field(held(x), 1)},
		{element(x, number(1)), element(x, number(1))}, {element(x, number(1)), element(x, other)}, {element(x, other), element(x, other)}, {element(x, y), element(x, y)}, {element(x, y), element(x, variable(9))}, {element(x, variable(1)), element(x, number(1))}, {element(x, number(math.MinInt)), element(x, number(math.MinInt))},
		{field(element(x, other), 1), field(element(x, number(1)), 1)}, {field(element(x, other), 1), element(x, number(1))}, {element(element(x, y), number(1)), element(element(x, number(2)), number(1))}, {element(field(x, 1), y), field(x, 1)},
		// Steps of unlike kinds part nothing.
		{field(x, 1), element(x, number(2))}, {field(x, 1), held(x)}, {element(x, number(1)), held(x)}, {field(field(x, 1), 1), held(field(x, 1))}, {element(x, api.Expr{Kind: api.ExBool, Num: 1}), element(x, number(0))}, {element(x, api.Expr{Kind: api.ExBool, Num: 1}), element(x, api.Expr{Kind: api.ExBool})},
		// A number's text and type part nothing either.
		{element(x, api.Expr{Kind: api.ExInt, Num: 1, Text: "u8", Type: api.Type{Kind: api.TyU8}}), element(x, number(1))}, {api.Expr{Kind: api.ExVar, Num: 3, Text: "a", At: 5, Type: api.Type{Kind: api.TyBox}}, x}, {api.Expr{Kind: api.ExField, Num: 1, Text: "a", At: 7, Kids: []api.Expr{x}}, field(x, 1)}} {
		wantOverlap(t, two[0], two[1], true)
	}
	for _, two := range [][2]api.Expr{{x, y}, {variable(0), variable(-1)}, {x, field(y, 1)}, {field(x, 1), field(y, 1)}, {held(x), held(y)}, {element(x, y), element(y, y)}, {element(y, x), x}, {field(x, 1), field(x, 2)}, {field(x, -1), field(x, 1)}, {element(x, number(0)), element(x, number(1))}, {element(x, number(-1)), element(x, number(1))}, {element(x, number(math.MinInt)), element(x, number(math.MaxInt))},
		{field(field(x, 1), 2), field(field(x, 1), 3)}, {field(field(x, 1), 2), field(field(x, 2), 2)}, {field(held(x), 1), field(held(x), 2)}, {held(field(x, 1)), held(field(x, 2))}, {element(element(x, number(1)), y), element(element(x, number(2)), y)}, {element(element(x, y), number(1)), element(element(x, y), number(2))}, {field(field(field(x, 1), 1), 1), field(x, 2)}, {held(held(field(x, 1))), field(x, 2)}, {field(element(x, other), 1), field(element(x, other), 2)},
		// One step of two that part is enough, wherever it stands.
		{field(element(held(x), number(1)), 5), field(element(held(x), number(2)), 5)}, {field(element(x, y), 1), field(held(x), 2)}} {
		wantOverlap(t, two[0], two[1], false)
	}
}

// TestOverlapOfOthers: trees that are no places, or have no root, overlap with nothing, not even themselves.
func TestOverlapOfOthers(t *testing.T) {
	x := variable(0)
	list := []api.Expr{{}, number(0), {Kind: api.ExBool}, {Kind: api.ExUnit}, {Kind: api.ExCall}, {Kind: api.ExCall, Kids: []api.Expr{x}}, {Kind: api.ExBlock, Num: 1, Kids: []api.Expr{x}}, {Kind: api.ExBorrow, Kids: []api.Expr{x}}, {Kind: api.ExNeg, Kids: []api.Expr{x}}, {Kind: api.ExStmt, Kids: []api.Expr{x}}, {Kind: api.PaBind}, {Kind: -1}, {Kind: 99, Kids: []api.Expr{x}}, {Kind: math.MinInt}, {Kind: math.MaxInt},
		{Kind: api.ExField}, {Kind: api.ExIndex}, {Kind: api.ExDeref}, {Kind: api.ExField, Kids: []api.Expr{}}, field(api.Expr{Kind: api.ExField}, 1), held(api.Expr{}), held(number(0)), held(api.Expr{Kind: api.ExDeref}), field(api.Expr{Kind: api.ExCall, Kids: []api.Expr{x}}, 0), element(number(0), x), element(api.Expr{Kind: api.ExArray, Kids: []api.Expr{x}}, number(0)), held(api.Expr{Kind: api.ExBorrow, Kids: []api.Expr{x}}), field(element(held(api.Expr{Kind: api.ExUnit}), x), 0)}
	for _, a := range list {
		wantOverlap(t, a, x, false)
		wantOverlap(t, a, field(x, 0), false)
		for _, b := range list {
			wantOverlap(t, a, b, false)
		}
	}
	// An index without a second kid has no number.
	wantOverlap(t, api.Expr{Kind: api.ExIndex, Kids: []api.Expr{x}}, element(x, number(1)), true)
}

// TestOverlapOfTyped: places as typeck tells them.
func TestOverlapOfTyped(t *testing.T) {
	text := "q.p.a; q.p.b; q.l[0]; q.l[ONE]; q.l[x]; *q.k; *q.n[0]; *q.n[1]; p.a; *b; **bb; l[-1]; l[1]; (*d).p.b; d.p.b; d.l[0]; "
	l := typed(t, inMain("let d = Box::new(q()); "+start+text))
	kids := bodyOf(l, "main").Kids
	var places []api.Expr
	for _, x := range kids[len(kids)-16:] {
		places = append(places, x.Kids[0])
	}
	same := map[[2]int]bool{{2, 4}: true, {3, 4}: true, {13, 14}: true}
	for i, a := range places {
		for j, b := range places {
			wantOverlap(t, a, b, i == j || same[[2]int{min(i, j), max(i, j)}])
		}
	}
}

// TestOverlapByChance holds places by chance against a telling of their own: as lists of words, held against each other.
func TestOverlapByChance(t *testing.T) {
	const noNumber = -1
	chance := rand.New(rand.NewSource(8))
	make := func() (api.Expr, [][2]int) {
		x := variable(chance.Intn(2))
		words := [][2]int{{api.ExVar, x.Num}}
		for range chance.Intn(5) {
			n := chance.Intn(2)
			switch chance.Intn(4) {
			case 0, 1:
				x, words = field(x, n), append(words, [2]int{api.ExField, n})
			case 2:
				index := []api.Expr{number(n), variable(n), {Kind: api.ExCast, Num: n, Kids: []api.Expr{number(n)}}}[chance.Intn(3)]
				if index.Kind != api.ExInt {
					n = noNumber
				}
				x, words = element(x, index), append(words, [2]int{api.ExIndex, n})
			case 3:
				x, words = held(x), append(words, [2]int{api.ExDeref, 0})
			}
		}
		return x, words
	}
	seen := map[bool]int{}
	for range 20000 {
		a, aWords := make()
		b, bWords := make()
		want := true
		for k := range min(len(aWords), len(bWords)) {
			v, w := aWords[k], bWords[k]
			if v[0] == w[0] && v[1] != w[1] && !slices.Contains([]int{v[1], w[1]}, noNumber) {
				want = false
			}
		}
		seen[want]++
		wantOverlap(t, a, b, want)
	}
	if seen[true] < 2000 || seen[false] < 2000 {
		t.Error(seen)
	}
}

// TestDeepOverlap: as deep as the bound lets a place be.
func TestDeepOverlap(t *testing.T) {
	x, y := variable(0), variable(0)
	for k := range 1 << 16 {
		x, y = field(x, k), field(y, k)
	}
	wantOverlap(t, x, y, true)
	wantOverlap(t, x, variable(0), true)
	wantOverlap(t, field(x, 1), field(y, 2), false)
}
