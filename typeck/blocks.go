package typeck

import (
	"ferrule/api"
	"ferrule/names"
)

// statementCheck tells a statement that was begun, typed, if nothing is wrong with it.
type statementCheck func(c *checker, x api.Expr) api.Expr

// statementChecks tells what checks each kind of statement.
func statementChecks() map[int]statementCheck {
	return map[int]statementCheck{
		api.ExLet:    (*checker).let,
		api.ExAssign: (*checker).assign,
		api.ExWhile:  (*checker).while,
		api.ExLoop:   (*checker).loop,
		api.ExBreak:  (*checker).leave,
		api.ExNext:   (*checker).next,
		api.ExReturn: (*checker).giveBack,
		api.ExStmt:   (*checker).letGo,
	}
}

func (c *checker) statement(x api.Expr) api.Expr {
	check, is := c.statements[x.Kind]
	formed(is)
	return check(c, c.begin(x))
}

// block checks a tree where parse tells a block alone.
func (c *checker) block(x api.Expr, want api.Type) api.Expr {
	formed(x.Kind == api.ExBlock)
	return c.tree(x, want)
}

func (c *checker) blockInside(x api.Expr, want api.Type) api.Expr {
	last := len(x.Kids) - x.Num
	formed(last >= 0)
	var kids []api.Expr
	t := plain(api.TyUnit)
	c.scoped(func() {
		for _, kid := range x.Kids[:last] {
			told := c.statement(kid)
			if isNever(told.Type) {
				t = told.Type
			}
			kids = append(kids, told)
		}
		for _, value := range x.Kids[last:] {
			told := c.tree(value, want)
			t = told.Type
			kids = append(kids, told)
		}
	})
	x.Kids, x.Type = kids, t
	return x
}

func (c *checker) choice(x api.Expr, want api.Type) api.Expr {
	asked := c.tree(x.Kids[0], plain(api.TyBool))
	if len(x.Kids) == 2 {
		unit := plain(api.TyUnit)
		x.Kids, x.Type = []api.Expr{asked, c.block(x.Kids[1], unit)}, unit
		return x
	}
	second := c.block(x.Kids[1], want)
	if want.Kind == 0 {
		want = known(second.Type)
	}
	third := c.otherwise(x.Kids[2], want)
	x.Kids, x.Type = []api.Expr{asked, second, third}, second.Type
	if isNever(second.Type) {
		x.Type = third.Type
	}
	return x
}

func (c *checker) otherwise(x api.Expr, want api.Type) api.Expr {
	if x.Kind == api.ExIf {
		return c.tree(x, want)
	}
	return c.block(x, want)
}

// goesOnIf is the type of a statement that goes on just if a tree of it does.
func goesOnIf(x api.Expr) api.Type {
	if isNever(x.Type) {
		return x.Type
	}
	return plain(api.TyUnit)
}

// let declares its variable behind all else: in its value the name means another one, and variables in there have their slots ahead of it.
func (c *checker) let(x api.Expr) api.Expr {
	formed(len(x.Ty) <= 1)
	want := nothing()
	if len(x.Ty) == 1 {
		e := names.Type(c.items, x.Ty[0], false)
		must(e == api.OK, x.At, e)
		want = ownType(x.Ty[0])
		x.Ty = []api.Type{want}
	} else {
		x.Ty = nil
	}
	kid := c.tree(x.Kids[0], want)
	if want.Kind == 0 {
		want = kept(kid.Type)
	}
	x.Num += 2 * c.declare(x.Text, want, x.Num == 1)
	x.Kids, x.Type = []api.Expr{kid}, goesOnIf(kid)
	return x
}

func (c *checker) assign(x api.Expr) api.Expr {
	to := c.place(x.Kids[0])
	must(!isBorrow(to.tree.Type), to.tree.At, api.ErrBorrow)
	must(to.mut, to.tree.At, api.ErrMutable)
	value := c.tree(x.Kids[1], to.tree.Type)
	x.Kids, x.Type = []api.Expr{to.tree, value}, goesOnIf(value)
	return x
}

func (c *checker) while(x api.Expr) api.Expr {
	unit := plain(api.TyUnit)
	c.turns(func() {
		asked := c.tree(x.Kids[0], plain(api.TyBool))
		x.Kids = []api.Expr{asked, c.block(x.Kids[1], unit)}
	})
	x.Type = unit
	return x
}

func (c *checker) loop(x api.Expr) api.Expr {
	x.Type = plain(api.TyUnit)
	breaks := c.turns(func() { x.Kids = []api.Expr{c.block(x.Kids[0], plain(api.TyUnit))} })
	if breaks == 0 {
		x.Type = plain(api.TyNever)
	}
	return x
}

// turns checks what is done again and again, and tells how many breaks leave it, rather than a loop in it.
func (c *checker) turns(check func()) int {
	c.loops = append(c.loops, 0)
	check()
	last := len(c.loops) - 1
	breaks := c.loops[last]
	c.loops = c.loops[:last]
	return breaks
}

func (c *checker) leave(x api.Expr) api.Expr {
	x = c.next(x)
	c.loops[len(c.loops)-1]++
	return x
}

func (c *checker) next(x api.Expr) api.Expr {
	must(len(c.loops) > 0, x.At, api.ErrLoop)
	x.Type = plain(api.TyNever)
	return x
}

func (c *checker) giveBack(x api.Expr) api.Expr {
	must(len(x.Kids) > 0 || c.answer.Kind == api.TyUnit, x.At, api.ErrType)
	if len(x.Kids) > 0 {
		x.Kids = []api.Expr{c.tree(x.Kids[0], c.answer)}
	}
	x.Type = plain(api.TyNever)
	return x
}

func (c *checker) letGo(x api.Expr) api.Expr {
	kid := c.tree(x.Kids[0], nothing())
	x.Kids, x.Type = []api.Expr{kid}, goesOnIf(kid)
	return x
}
