package typeck

import (
	"strings"

	"ferrule/api"
	"ferrule/num"
	"ferrule/types"
)

// cases is what the arms of a match have had, from the first one on.
type cases struct {
	value api.Type // what is matched
	had   map[int]struct{}
	rest  bool     // an arm with _ had all the rest
	want  api.Type // of the arms' trees
	typ   api.Type // the match's, as far as is known
}

func (c *checker) match(x api.Expr, want api.Type) api.Expr {
	value := c.tree(x.Kids[0], nothing())
	must(isScalar(value.Type, true) || c.isEnum(value.Type), value.At, api.ErrType)
	all := &cases{value: value.Type, had: map[int]struct{}{}, want: want, typ: plain(api.TyNever)}
	kids := []api.Expr{value}
	for _, arm := range x.Kids[1:] {
		c.scoped(func() { kids = append(kids, c.arm(arm, all)) })
	}
	must(all.rest || len(all.had) == c.casesOf(value.Type), x.At, api.ErrMatch)
	x.Kids, x.Type = kids, all.typ
	return x
}

func (c *checker) isEnum(t api.Type) bool {
	return t.Kind == api.TyNamed && types.Find(c.items, api.ItEnum, t.Name) >= 0
}

// casesOf is how many arms without _ have all of a type; below 0: no number of arms has.
func (c *checker) casesOf(t api.Type) int {
	switch {
	case num.Int(t.Kind):
		return -1
	case t.Kind == api.TyBool:
		return 2
	}
	return len(c.items[types.Find(c.items, api.ItEnum, t.Name)].Variants)
}

func (c *checker) arm(x api.Expr, all *cases) api.Expr {
	x = c.beginAs(api.ExArm, x)
	must(!all.rest, x.At, api.ErrMatch)
	pattern := c.pattern(x.Kids[0], all.value)
	if pattern.Kind == api.PaAny {
		all.rest = true
	} else {
		_, had := all.had[pattern.Num]
		must(!had, x.At, api.ErrMatch)
		all.had[pattern.Num] = struct{}{}
	}
	want := all.want
	if want.Kind == 0 {
		want = known(all.typ)
	}
	tree := c.tree(x.Kids[1], want)
	if isNever(all.typ) {
		all.typ = tree.Type
	}
	x.Kids, x.Type = []api.Expr{pattern, tree}, tree.Type
	return x
}

// pattern checks a pattern of a value. Those of one type differ in Num, if they stand for different values.
func (c *checker) pattern(x api.Expr, value api.Type) api.Expr {
	x = c.begin(x)
	x.Type = value
	switch x.Kind {
	case api.PaAny:
	case api.PaInt:
		must(isInt(value), x.At, api.ErrType)
		must(inRange(value, x.Num), x.At, api.ErrRange)
	case api.PaBool:
		must(value.Kind == api.TyBool, x.At, api.ErrType)
	case api.PaVariant:
		return c.variantPattern(x)
	default:
		formed(false)
	}
	return x
}

func (c *checker) variantPattern(x api.Expr) api.Expr {
	enum, name, _ := strings.Cut(x.Text, "::")
	at, parts, is := types.Variant(c.items, x.Type, name)
	must(is && enum == x.Type.Name, x.At, api.ErrType)
	mustCount(x, len(parts))
	used := map[string]struct{}{}
	var kids []api.Expr
	for k, kid := range x.Kids {
		kids = append(kids, c.bind(kid, parts[k], used))
	}
	x.Num, x.Kids = at, kids
	return x
}

// bind gives a part of a variant its name, if none of the parts ahead of it has that.
func (c *checker) bind(x api.Expr, t api.Type, used map[string]struct{}) api.Expr {
	x = c.beginAs(api.PaBind, x)
	x.Num, x.Type = -1, t
	if x.Text == "_" {
		return x
	}
	_, twice := used[x.Text]
	must(!twice, x.At, api.ErrTwice)
	used[x.Text] = struct{}{}
	x.Num = c.declare(x.Text, t, false)
	return x
}
