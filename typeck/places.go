package typeck

import (
	"ferrule/api"
	"ferrule/types"
)

// place is a tree that was checked as one.
type place struct {
	tree api.Expr
	mut  bool // it may be changed
}

// placeValue checks a place of which the value is used.
func (c *checker) placeValue(x api.Expr, want api.Type) api.Expr {
	told := c.placeInside(x).tree
	must(!isBorrow(told.Type), x.At, api.ErrBorrow)
	return told
}

// place checks a tree that must be a place. What is none is not gone into.
func (c *checker) place(x api.Expr) place {
	c.mustBeTree(x)
	return c.placeInside(c.begin(x))
}

func (c *checker) placeInside(x api.Expr) place {
	switch x.Kind {
	case api.ExVar:
		return c.variable(x)
	case api.ExField:
		return c.field(x)
	case api.ExIndex:
		return c.element(x)
	case api.ExDeref:
		return held(x.At, c.place(x.Kids[0]))
	}
	must(false, x.At, api.ErrPlace)
	return place{}
}

func (c *checker) variable(x api.Expr) place {
	v, is := c.find(x.Text)
	must(is || c.constant(x.Text) >= 0, x.At, api.ErrName)
	must(is, x.At, api.ErrPlace)
	x.Num, x.Type = v.slot, v.typ
	return place{x, v.mut}
}

func (c *checker) field(x api.Expr) place {
	of := through(x.At, c.place(x.Kids[0]))
	t := of.tree.Type
	must(t.Kind == api.TyNamed && types.Find(c.items, api.ItStruct, t.Name) >= 0, x.At, api.ErrType)
	at, f, _, is := types.Field(c.items, t, x.Text)
	must(is, x.At, api.ErrName)
	x.Num, x.Type, x.Kids = at, f, []api.Expr{of.tree}
	return place{x, of.mut}
}

func (c *checker) element(x api.Expr) place {
	of := through(x.At, c.place(x.Kids[0]))
	must(of.tree.Type.Kind == api.TyArray, x.At, api.ErrType)
	x.Type = of.tree.Type.Elem[0]
	x.Kids = []api.Expr{of.tree, c.integer(x.Kids[1])}
	return place{x, of.mut}
}

// held is what a Box holds, or a borrow points to.
func held(at int, by place) place {
	t := by.tree.Type
	must(isPointer(t), at, api.ErrType)
	x := api.Expr{Kind: api.ExDeref, At: at, Kids: []api.Expr{by.tree}, Type: t.Elem[0]}
	return place{x, t.Kind == api.TyMut || t.Kind == api.TyBox && by.mut}
}

// through goes on from Boxes and borrows to what they stand for.
func through(at int, p place) place {
	for isPointer(p.tree.Type) {
		p = held(at, p)
	}
	return p
}
