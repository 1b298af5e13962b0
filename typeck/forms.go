package typeck

import "ferrule/api"

// mostTrees is how many trees a program of parse can have: each has a byte of the text that is no other's.
// Trees that share their memory can be more than could ever be gone over.
const mostTrees = api.MaxText

// many is the most kids of what may have any number of them.
const many = -1

// What the Num of a tree may be that parse tells.
const (
	noNum   = iota
	flagNum // 0 or 1
	anyNum
)

// shape is what the trees of a kind have: from least to most kids, and which fields have a meaning.
type shape struct {
	least, most, num int
	text, types      bool
}

// shapes holds the shape of each kind of tree, by its number.
var shapes = [...]shape{
	api.ExInt:     {0, 0, anyNum, true, false},
	api.ExBool:    {0, 0, flagNum, false, false},
	api.ExUnit:    {0, 0, noNum, false, false},
	api.ExVar:     {0, 0, noNum, true, false},
	api.ExNeg:     {1, 1, noNum, false, false},
	api.ExNot:     {1, 1, noNum, false, false},
	api.ExDeref:   {1, 1, noNum, false, false},
	api.ExBorrow:  {1, 1, flagNum, false, false},
	api.ExBin:     {2, 2, noNum, true, false},
	api.ExCast:    {1, 1, noNum, false, true},
	api.ExCall:    {0, many, noNum, true, false},
	api.ExField:   {1, 1, noNum, true, false},
	api.ExIndex:   {2, 2, noNum, false, false},
	api.ExStruct:  {0, many, noNum, true, false},
	api.ExInit:    {1, 1, noNum, true, false},
	api.ExVariant: {0, many, noNum, true, false},
	api.ExArray:   {0, many, noNum, false, false},
	api.ExRepeat:  {1, 1, anyNum, false, false},
	api.ExBlock:   {0, many, flagNum, false, false},
	api.ExIf:      {2, 3, noNum, false, false},
	api.ExMatch:   {1, many, noNum, false, false},
	api.ExArm:     {2, 2, noNum, false, false},
	api.PaInt:     {0, 0, anyNum, false, false},
	api.PaBool:    {0, 0, flagNum, false, false},
	api.PaAny:     {0, 0, noNum, false, false},
	api.PaVariant: {0, many, noNum, true, false},
	api.PaBind:    {0, 0, noNum, true, false},
	api.ExWhile:   {2, 2, noNum, false, false},
	api.ExLoop:    {1, 1, noNum, false, false},
	api.ExBreak:   {0, 0, noNum, false, false},
	api.ExNext:    {0, 0, noNum, false, false},
	api.ExReturn:  {0, 1, noNum, false, false},
	api.ExLet:     {1, 1, flagNum, true, true},
	api.ExAssign:  {2, 2, noNum, false, false},
	api.ExStmt:    {1, 1, noNum, false, false},
}

// begin tells a tree with what its kind has, and with nothing else. Its kids are still those that were given.
func (c *checker) begin(x api.Expr) api.Expr {
	c.begun++
	formed(c.begun <= mostTrees && 0 < x.Kind && x.Kind < len(shapes))
	s := shapes[x.Kind]
	formed(len(x.Kids) >= s.least && (s.most == many || len(x.Kids) <= s.most))
	told := api.Expr{Kind: x.Kind, At: x.At}
	if len(x.Kids) > 0 {
		told.Kids = x.Kids
	}
	if s.num != noNum {
		told.Num = x.Num
		formed(s.num == anyNum || x.Num == 0 || x.Num == 1)
	}
	if s.text {
		told.Text = x.Text
	}
	if s.types {
		told.Ty = x.Ty
	}
	return told
}

// beginAs begins a tree that can be of one kind alone where it stands.
func (c *checker) beginAs(kind int, x api.Expr) api.Expr {
	formed(x.Kind == kind)
	return c.begin(x)
}

// ownItem is an item in new memory, with what its kind has. A function's body is still the one that was given.
func ownItem(it api.Item) api.Item {
	own := api.Item{Kind: it.Kind, Name: it.Name, At: it.At}
	switch it.Kind {
	case api.ItFunc:
		own.Params, own.Type, own.Body = ownParams(it.Params), ownType(it.Type), it.Body
	case api.ItStruct:
		own.Params = ownParams(it.Params)
	case api.ItEnum:
		own.Variants = ownVariants(it.Variants)
	case api.ItConst:
		own.Type, own.Num = ownType(it.Type), it.Num
	}
	return own
}

func ownParams(list []api.Param) []api.Param {
	var own []api.Param
	for _, p := range list {
		p.Type = ownType(p.Type)
		own = append(own, p)
	}
	return own
}

func ownVariants(list []api.Variant) []api.Variant {
	var own []api.Variant
	for _, v := range list {
		var parts []api.Type
		for _, t := range v.Types {
			parts = append(parts, ownType(t))
		}
		v.Types = parts
		own = append(own, v)
	}
	return own
}

// ownType is a type in new memory. It gives up, if the type has not just what its kind has: two such could be unlike, though nobody would see it.
func ownType(t api.Type) api.Type {
	own := t
	for part := &own; ; part = &part.Elem[0] {
		formed(isPlain(*part))
		if len(part.Elem) == 0 {
			part.Elem = nil
			return own
		}
		part.Elem = []api.Type{part.Elem[0]}
	}
}

func isPlain(t api.Type) bool {
	elems := 0
	if holds(t.Kind) {
		elems = 1
	}
	return len(t.Elem) == elems && (t.Name == "" || t.Kind == api.TyNamed) && (t.N == 0 || t.Kind == api.TyArray)
}

// holds tells whether types of a kind hold another one.
func holds(kind int) bool { return kind >= api.TyArray && kind <= api.TyMut }

// ownTypes gives each tree of a told one a Type of its own, as no two lists that are handed out may share memory. (Ty, where there is one, is new already.)
func ownTypes(x *api.Expr) {
	x.Type = ownType(x.Type)
	for k := range x.Kids {
		ownTypes(&x.Kids[k])
	}
}
