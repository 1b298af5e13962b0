package typeck

import (
	"ferrule/api"
	"ferrule/types"
)

func (c *checker) call(x api.Expr, want api.Type) api.Expr {
	switch x.Text {
	case "print":
		return c.print(x)
	case "read":
		mustCount(x, 0)
		x.Type = plain(api.TyI32)
		return x
	case "unbox":
		return c.unbox(x)
	case "replace":
		return c.replace(x)
	}
	return c.callFunction(x)
}

// mustCount asks for how many kids a tree has, ahead of what they are.
func mustCount(x api.Expr, n int) { must(len(x.Kids) == n, x.At, api.ErrCount) }

func (c *checker) print(x api.Expr) api.Expr {
	mustCount(x, 1)
	kid := c.tree(x.Kids[0], nothing())
	must(isScalar(kid.Type, true), kid.At, api.ErrType)
	x.Kids, x.Type = []api.Expr{kid}, plain(api.TyUnit)
	return x
}

func (c *checker) unbox(x api.Expr) api.Expr {
	mustCount(x, 1)
	kid := c.tree(x.Kids[0], nothing())
	must(kid.Type.Kind == api.TyBox, kid.At, api.ErrType)
	x.Kids, x.Type = []api.Expr{kid}, kid.Type.Elem[0]
	return x
}

func (c *checker) replace(x api.Expr) api.Expr {
	mustCount(x, 2)
	to := c.borrowed(x.Kids[0], api.TyMut)
	t := to.Type.Elem[0]
	x.Kids, x.Type = []api.Expr{to, c.tree(x.Kids[1], t)}, t
	return x
}

func (c *checker) callFunction(x api.Expr) api.Expr {
	at := types.Find(c.items, api.ItFunc, x.Text)
	must(at >= 0, x.At, api.ErrName)
	f := &c.items[at]
	mustCount(x, len(f.Params))
	var kids []api.Expr
	for k, kid := range x.Kids {
		kids = append(kids, c.argument(kid, f.Params[k].Type))
	}
	x.Kids, x.Type = kids, f.Type
	return x
}

func (c *checker) argument(x api.Expr, t api.Type) api.Expr {
	if !isBorrow(t) {
		return c.tree(x, t)
	}
	told := c.borrowed(x, t.Kind)
	e := api.ErrType
	if x.Kind == api.ExVar {
		e = api.ErrBorrow
	}
	must(types.Same(told.Type, t), x.At, e)
	return told
}

// borrowed checks an argument that is to be a borrow of a kind: a new one, or one that a variable has.
func (c *checker) borrowed(x api.Expr, kind int) api.Expr {
	c.mustBeTree(x)
	switch x.Kind {
	case api.ExBorrow:
		return c.newBorrow(c.begin(x), kind)
	case api.ExVar:
		return c.handedOn(c.begin(x), kind)
	}
	must(false, x.At, api.ErrBorrow)
	return x
}

func (c *checker) newBorrow(x api.Expr, kind int) api.Expr {
	mut := x.Num == 1
	must(mut == (kind == api.TyMut), x.At, api.ErrType)
	p := c.place(x.Kids[0])
	must(p.mut || !mut, x.At, api.ErrMutable)
	x.Kids, x.Type = []api.Expr{p.tree}, holding(kind, p.tree.Type)
	return x
}

func (c *checker) handedOn(x api.Expr, kind int) api.Expr {
	v, is := c.find(x.Text)
	must(is || c.constant(x.Text) >= 0, x.At, api.ErrName)
	must(is && v.typ.Kind == kind, x.At, api.ErrBorrow)
	x.Num, x.Type = v.slot, v.typ
	return x
}
