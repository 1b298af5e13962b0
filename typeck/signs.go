package typeck

import "ferrule/api"

// rule is what a sign asks of a pair, and makes of it.
type rule struct {
	bools    bool // bools will do, too
	compares bool // it makes a bool, whatever the pair is of
}

func ruleOf(sign string) rule {
	switch sign {
	case "+", "-", "*", "/", "%":
		return rule{}
	case "&", "|", "^":
		return rule{bools: true}
	case "==", "!=":
		return rule{bools: true, compares: true}
	case "<", "<=", ">", ">=":
		return rule{compares: true}
	}
	formed(false)
	return rule{}
}

func (c *checker) binary(x api.Expr, want api.Type) api.Expr {
	switch x.Text {
	case "&&", "||":
		return c.logical(x)
	case "<<", ">>":
		return c.shift(x, want)
	}
	return c.pair(x, want, ruleOf(x.Text))
}

func (c *checker) logical(x api.Expr) api.Expr {
	asked := plain(api.TyBool)
	first := c.tree(x.Kids[0], asked)
	second := c.tree(x.Kids[1], asked)
	x.Kids, x.Type = []api.Expr{first, second}, asked
	return x
}

func (c *checker) shift(x api.Expr, want api.Type) api.Expr {
	if !isInt(want) {
		want = nothing()
	}
	first := c.tree(x.Kids[0], want)
	must(isInt(first.Type), x.At, api.ErrType)
	x.Kids, x.Type = []api.Expr{first, c.integer(x.Kids[1])}, first.Type
	return x
}

// integer checks a tree that can be of any integer type.
func (c *checker) integer(x api.Expr) api.Expr {
	told := c.tree(x, nothing())
	must(isInt(told.Type), x.At, api.ErrType)
	return told
}

func (c *checker) pair(x api.Expr, want api.Type, r rule) api.Expr {
	if r.compares || !isScalar(want, r.bools) {
		want = nothing()
	}
	first, second := c.both(x.Kids[0], x.Kids[1], want)
	t := first.Type
	if isNever(t) {
		t = second.Type
	}
	must(isScalar(t, r.bools), x.At, api.ErrType)
	if r.compares {
		t = plain(api.TyBool)
	}
	x.Kids, x.Type = []api.Expr{first, second}, t
	return x
}

// both checks two trees of one type. Where none is wanted, that of a bare number is the other one's, wherever it stands.
func (c *checker) both(first, second api.Expr, want api.Type) (api.Expr, api.Expr) {
	switch {
	case want.Kind != 0:
		first = c.tree(first, want)
		second = c.tree(second, want)
	case isBare(first) && !isBare(second):
		second = c.tree(second, nothing())
		first = c.tree(first, known(second.Type))
	default:
		first = c.tree(first, nothing())
		second = c.tree(second, known(first.Type))
	}
	return first, second
}

// isBare tells whether a tree is a number that says nothing of its type.
func isBare(x api.Expr) bool {
	for x.Kind == api.ExNeg && len(x.Kids) == 1 {
		x = x.Kids[0]
	}
	return x.Kind == api.ExInt && x.Text == ""
}
