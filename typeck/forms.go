package typeck

import (
	"ferrule/api"
	"ferrule/shapes"
)

// begin tells a tree with what its kind has, and with nothing else. Its kids are still those that were given.
func (c *checker) begin(x api.Expr) api.Expr {
	c.begun++
	s, is := shapes.Of(x.Kind)
	formed(c.begun <= shapes.MostTrees && is && s.Takes(len(x.Kids)))
	told := api.Expr{Kind: x.Kind, At: x.At}
	if len(x.Kids) > 0 {
		told.Kids = x.Kids
	}
	if s.Num != shapes.NoNum {
		told.Num = x.Num
		formed(s.Num == shapes.AnyNum || x.Num == 0 || x.Num == 1)
	}
	if s.Text {
		told.Text = x.Text
	}
	if s.Types {
		told.Ty = x.Ty
	}
	return told
}

// beginAs begins a tree that can be of one kind alone where it stands.
func (c *checker) beginAs(kind int, x api.Expr) api.Expr {
	formed(x.Kind == kind)
	return c.begin(x)
}

// ownItem is an item in new memory, with what its kind has. A function's body is still the one that was given.
func ownItem(it api.Item) api.Item {
	own := api.Item{Kind: it.Kind, Name: it.Name, At: it.At}
	switch it.Kind {
	case api.ItFunc:
		own.Params, own.Type, own.Body = ownParams(it.Params), ownType(it.Type), it.Body
	case api.ItStruct:
		own.Params = ownParams(it.Params)
	case api.ItEnum:
		own.Variants = ownVariants(it.Variants)
	case api.ItConst:
		own.Type, own.Num = ownType(it.Type), it.Num
	}
	return own
}

func ownParams(list []api.Param) []api.Param {
	var own []api.Param
	for _, p := range list {
		p.Type = ownType(p.Type)
		own = append(own, p)
	}
	return own
}

func ownVariants(list []api.Variant) []api.Variant {
	var own []api.Variant
	for _, v := range list {
		var parts []api.Type
		for _, t := range v.Types {
			parts = append(parts, ownType(t))
		}
		v.Types = parts
		own = append(own, v)
	}
	return own
}

// ownType is a type in new memory. It gives up, if the type has not just what its kind has: two such could be unlike, though nobody would see it.
func ownType(t api.Type) api.Type {
	own := t
	for part := &own; ; part = &part.Elem[0] {
		formed(isPlain(*part))
		if len(part.Elem) == 0 {
			part.Elem = nil
			return own
		}
		part.Elem = []api.Type{part.Elem[0]}
	}
}

func isPlain(t api.Type) bool {
	elems := 0
	if holds(t.Kind) {
		elems = 1
	}
	return len(t.Elem) == elems && (t.Name == "" || t.Kind == api.TyNamed) && (t.N == 0 || t.Kind == api.TyArray)
}

// holds tells whether types of a kind hold another one.
func holds(kind int) bool { return kind >= api.TyArray && kind <= api.TyMut }

// ownTypes gives each tree of a told one a Type of its own, as no two lists that are handed out may share memory. (Ty, where there is one, is new already.)
func ownTypes(x *api.Expr) {
	x.Type = ownType(x.Type)
	for k := range x.Kids {
		ownTypes(&x.Kids[k])
	}
}
