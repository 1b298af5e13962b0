package show

import "ferrule/api"

func (t *teller) block(x api.Expr) forms {
	told := word("{")
	for i, kid := range x.Kids {
		if x.Num == 1 && i == len(x.Kids)-1 {
			told = join(told, t.opening(kid))
		} else {
			told = join(told, t.written(kid))
		}
		if len(told) == 0 {
			break
		}
	}
	return join(told, ending(x), word("}")).enclosed()
}

// ending tells what a block without a value needs, if its last statement would be taken for one.
func ending(x api.Expr) forms {
	if x.Num == 1 || len(x.Kids) == 0 {
		return word("")
	}
	last := x.Kids[len(x.Kids)-1]
	if last.Kind == api.ExStmt && isClosed(kid(last, 0)) {
		return word(";")
	}
	return word("")
}

// opening tells a tree as a statement begins with it: what is closed stands there by itself, in no operand.
func (t *teller) opening(x api.Expr) forms {
	if isClosed(x) {
		return t.written(x)
	}
	return t.ahead(x)
}

// ahead tells a tree with which a statement begins, and goes on.
func (t *teller) ahead(x api.Expr) forms {
	return t.tree(x).only(func(f form) bool { return !f.closed })
}

func (t *teller) statement(x api.Expr) forms {
	of := kid(x, 0)
	if isClosed(of) {
		return t.opening(of)
	}
	return join(t.opening(of), word(";"))
}

func (t *teller) assign(x api.Expr) forms {
	return join(t.ahead(kid(x, 0)), word("="), t.tree(kid(x, 1)), word(";"))
}

func (t *teller) let(x api.Expr) forms {
	typed := word("")
	if len(x.Ty) > 0 {
		typed = join(word(":"), t.typed(x.Ty[0]))
	}
	return join(word("let"), mut(x.Num == 1), word(x.Text), typed, word("="), t.tree(kid(x, 0)), word(";"))
}

// asked tells a cond.
func (t *teller) asked(x api.Expr) forms {
	return t.tree(x).only(func(f form) bool { return !f.bare })
}

func (t *teller) choice(x api.Expr) forms {
	told := join(word("if"), t.asked(kid(x, 0)), t.written(kid(x, 1)))
	if len(x.Kids) > 2 {
		told = join(told, word("else"), t.written(x.Kids[2]))
	}
	return told.enclosed()
}

func (t *teller) match(x api.Expr) forms {
	var arms []api.Expr
	if len(x.Kids) > 1 {
		arms = x.Kids[1:]
	}
	return join(word("match"), t.asked(kid(x, 0)), word("{"), list(arms, t.written), word("}")).enclosed()
}
