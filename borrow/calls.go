package borrow

import (
	"ferrule/api"
	"ferrule/types"
)

// loan is what an argument borrows.
type loan struct {
	path
	alone bool
}

// loanOf tells what an argument borrows; false: it is no borrow.
func loanOf(x *api.Expr) (loan, bool) {
	switch {
	case x.Kind == api.ExBorrow:
		p, _ := pathOf(&x.Kids[0])
		return loan{p, x.Num == 1}, true
	case isHandedOn(x):
		// What the variable points to is borrowed, not the variable.
		return loan{path{x, []step{{kind: api.ExDeref}}}, x.Type.Kind == api.TyMut}, true
	}
	return loan{}, false
}

// isHandedOn tells whether an argument is a borrow that a variable has.
func isHandedOn(x *api.Expr) bool {
	return x.Kind == api.ExVar && (x.Type.Kind == api.TyRef || x.Type.Kind == api.TyMut)
}

func (c *checker) call(x *api.Expr) {
	for k := range x.Kids {
		c.argument(&x.Kids[k])
	}
	if c.telling {
		c.together(x.Kids)
	}
}

func (c *checker) argument(x *api.Expr) {
	switch {
	case x.Kind == api.ExBorrow:
		c.look(&x.Kids[0])
	case isHandedOn(x):
		c.look(x)
	default:
		c.run(x)
	}
}

// together asks each argument of a call against the borrows ahead of it.
func (c *checker) together(args []api.Expr) {
	var ahead []loan
	for k := range args {
		own, borrows := loanOf(&args[k])
		for _, l := range ahead {
			if borrows && l.forbids(own) || !borrows && c.disturbs(&args[k], l) {
				c.tell(args[k].At, api.ErrShared)
			}
		}
		if borrows {
			ahead = append(ahead, own)
		}
	}
}

func (l loan) forbids(other loan) bool {
	return (l.alone || other.alone) && l.overlaps(other.path)
}

// disturbs tells whether an argument that is no borrow may not stand behind one.
func (c *checker) disturbs(x *api.Expr, l loan) bool {
	slot := l.root.Num
	return l.alone && holds(x, isVariable(slot)) || c.changes(x, slot)
}

// changes tells whether something in a tree may change a variable, or what it points to, or move it away.
func (c *checker) changes(x *api.Expr, slot int) bool {
	is := isVariable(slot)
	return holds(x, func(y *api.Expr, inner bool) bool {
		switch y.Kind {
		case api.ExAssign:
			return is(rootOf(&y.Kids[0]), true)
		case api.ExBorrow:
			return y.Num == 1 && is(rootOf(&y.Kids[0]), true)
		}
		return is(y, inner) && (y.Type.Kind == api.TyMut || !inner && !types.Copy(c.items, y.Type))
	})
}

// question asks something of a tree; inner: it is the one of which a place is a part, or which is borrowed.
type question func(x *api.Expr, inner bool) bool

func isVariable(slot int) question {
	return func(x *api.Expr, inner bool) bool { return x.Kind == api.ExVar && x.Num == slot }
}

// holds tells whether what is asked is so of a tree, or of one in it.
func holds(x *api.Expr, asked question) bool {
	var within func(x *api.Expr, inner bool) bool
	within = func(x *api.Expr, inner bool) bool {
		if asked(x, inner) {
			return true
		}
		for k := range x.Kids {
			if within(&x.Kids[k], k == 0 && (isStep(x.Kind) || x.Kind == api.ExBorrow)) {
				return true
			}
		}
		return false
	}
	return within(x, false)
}
