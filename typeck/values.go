package typeck

import (
	"strings"

	"ferrule/api"
	"ferrule/types"
)

func (c *checker) structure(x api.Expr, want api.Type) api.Expr {
	at := types.Find(c.items, api.ItStruct, x.Text)
	must(at >= 0, x.At, api.ErrName)
	x.Type = api.Type{Kind: api.TyNamed, Name: x.Text}
	given := map[int]struct{}{}
	var kids []api.Expr
	for _, kid := range x.Kids {
		kids = append(kids, c.fieldValue(kid, x.Type, given))
	}
	must(len(given) == len(c.items[at].Params), x.At, api.ErrCount)
	x.Kids = kids
	return x
}

// fieldValue checks what a field is given, if it was given nothing yet.
func (c *checker) fieldValue(x api.Expr, of api.Type, given map[int]struct{}) api.Expr {
	x = c.beginAs(api.ExInit, x)
	at, t, _, is := types.Field(c.items, of, x.Text)
	must(is, x.At, api.ErrName)
	_, twice := given[at]
	must(!twice, x.At, api.ErrTwice)
	given[at] = struct{}{}
	kid := c.tree(x.Kids[0], t)
	x.Num, x.Kids, x.Type = at, []api.Expr{kid}, kid.Type
	return x
}

func (c *checker) variant(x api.Expr, want api.Type) api.Expr {
	if x.Text == "Box::new" {
		return c.box(x, want)
	}
	enum, name, _ := strings.Cut(x.Text, "::")
	t := api.Type{Kind: api.TyNamed, Name: enum}
	at, parts, is := types.Variant(c.items, t, name)
	must(is, x.At, api.ErrName)
	mustCount(x, len(parts))
	var kids []api.Expr
	for k, kid := range x.Kids {
		kids = append(kids, c.tree(kid, parts[k]))
	}
	x.Num, x.Kids, x.Type = at, kids, t
	return x
}

func (c *checker) box(x api.Expr, want api.Type) api.Expr {
	mustCount(x, 1)
	kid := c.tree(x.Kids[0], heldBy(api.TyBox, want))
	x.Kids, x.Type = []api.Expr{kid}, holding(api.TyBox, kept(kid.Type))
	return x
}

func (c *checker) array(x api.Expr, want api.Type) api.Expr {
	must(len(x.Kids) > 0 || want.Kind == api.TyArray, x.At, api.ErrType)
	elem := heldBy(api.TyArray, want)
	var kids []api.Expr
	for _, kid := range x.Kids {
		kids = append(kids, c.tree(kid, elem))
		elem = kept(kids[0].Type)
	}
	x.Kids, x.Type = kids, c.arrayOf(x.At, elem, len(kids))
	return x
}

func (c *checker) repeat(x api.Expr, want api.Type) api.Expr {
	formed(x.Num >= 0)
	kid := c.tree(x.Kids[0], heldBy(api.TyArray, want))
	elem := kept(kid.Type)
	must(types.Copy(c.items, elem), x.At, api.ErrMove)
	x.Kids, x.Type = []api.Expr{kid}, c.arrayOf(x.At, elem, x.Num)
	return x
}

// arrayOf is the type of an array that stands at a place, if it has words.
func (c *checker) arrayOf(at int, elem api.Type, n int) api.Type {
	t := holding(api.TyArray, elem)
	t.N = n
	_, sized := types.Words(c.items, t)
	must(sized, at, api.ErrSize)
	return t
}
