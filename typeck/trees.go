package typeck

import (
	"ferrule/api"
	"ferrule/types"
)

// treeCheck tells a tree that was begun, typed, if nothing is wrong with it; whether it is of the type that is wanted is asked behind it.
type treeCheck func(c *checker, x api.Expr, want api.Type) api.Expr

// treeChecks tells what checks each kind of tree that has a value.
func treeChecks() map[int]treeCheck {
	return map[int]treeCheck{
		api.ExInt:     (*checker).number,
		api.ExBool:    (*checker).truth,
		api.ExUnit:    (*checker).unit,
		api.ExVar:     (*checker).name,
		api.ExNeg:     (*checker).negative,
		api.ExNot:     (*checker).not,
		api.ExDeref:   (*checker).placeValue,
		api.ExBorrow:  (*checker).strayBorrow,
		api.ExBin:     (*checker).binary,
		api.ExCast:    (*checker).cast,
		api.ExCall:    (*checker).call,
		api.ExField:   (*checker).placeValue,
		api.ExIndex:   (*checker).placeValue,
		api.ExStruct:  (*checker).structure,
		api.ExVariant: (*checker).variant,
		api.ExArray:   (*checker).array,
		api.ExRepeat:  (*checker).repeat,
		api.ExBlock:   (*checker).blockInside,
		api.ExIf:      (*checker).choice,
		api.ExMatch:   (*checker).match,
	}
}

// tree checks a tree of any kind that has a value.
func (c *checker) tree(x api.Expr, want api.Type) api.Expr {
	check := c.mustBeTree(x)
	told := check(c, c.begin(x), want)
	if want.Kind != 0 && !isNever(told.Type) {
		must(types.Same(told.Type, want), x.At, api.ErrType)
	}
	return told
}

// mustBeTree tells what checks a tree, wherever parse tells one that has a value.
func (c *checker) mustBeTree(x api.Expr) treeCheck {
	check, is := c.trees[x.Kind]
	formed(is)
	return check
}

func (c *checker) number(x api.Expr, want api.Type) api.Expr {
	x.Type = numberType(x, want)
	must(inRange(x.Type, x.Num), x.At, api.ErrRange)
	return x
}

func numberType(x api.Expr, want api.Type) api.Type {
	switch {
	case x.Text != "":
		return intOf(x.Text)
	case isInt(want):
		return want
	}
	return plain(api.TyI32)
}

func (c *checker) truth(x api.Expr, want api.Type) api.Expr {
	x.Type = plain(api.TyBool)
	return x
}

func (c *checker) unit(x api.Expr, want api.Type) api.Expr {
	x.Type = plain(api.TyUnit)
	return x
}

func (c *checker) name(x api.Expr, want api.Type) api.Expr {
	if _, is := c.find(x.Text); !is {
		if at := c.constant(x.Text); at >= 0 {
			return api.Expr{Kind: api.ExInt, At: x.At, Num: c.items[at].Num, Type: c.items[at].Type}
		}
	}
	return c.placeValue(x, want)
}

// constant finds a constant by its name; below 0: there is none.
func (c *checker) constant(name string) int { return types.Find(c.items, api.ItConst, name) }

func (c *checker) negative(x api.Expr, want api.Type) api.Expr {
	if x.Kids[0].Kind == api.ExInt {
		return c.negativeNumber(x, want)
	}
	kid := c.tree(x.Kids[0], want)
	must(isSigned(kid.Type), x.At, api.ErrType)
	x.Kids, x.Type = []api.Expr{kid}, kid.Type
	return x
}

// negativeNumber tells a number with a sign as one number: its type may have the negative, but not the number itself.
func (c *checker) negativeNumber(x api.Expr, want api.Type) api.Expr {
	number := c.begin(x.Kids[0])
	t := numberType(number, want)
	must(isSigned(t), x.At, api.ErrType)
	must(inRange(t, -number.Num), number.At, api.ErrRange)
	return api.Expr{Kind: api.ExInt, At: x.At, Num: -number.Num, Type: t}
}

func (c *checker) not(x api.Expr, want api.Type) api.Expr {
	kid := c.tree(x.Kids[0], want)
	must(isScalar(kid.Type, true), x.At, api.ErrType)
	x.Kids, x.Type = []api.Expr{kid}, kid.Type
	return x
}

// strayBorrow is of a borrow that is no argument.
func (c *checker) strayBorrow(x api.Expr, want api.Type) api.Expr {
	must(false, x.At, api.ErrBorrow)
	return x
}

func (c *checker) cast(x api.Expr, want api.Type) api.Expr {
	formed(len(x.Ty) == 1)
	kid := c.tree(x.Kids[0], nothing())
	must(isScalar(kid.Type, true), x.At, api.ErrType)
	must(isInt(x.Ty[0]), x.At, api.ErrType)
	t := ownType(x.Ty[0])
	x.Kids, x.Ty, x.Type = []api.Expr{kid}, []api.Type{t}, t
	return x
}
