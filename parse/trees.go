package parse

import (
	"ferrule/api"
	"ferrule/ranks"
)

func (p *parser) tree() api.Expr { return p.ranked(ranks.First) }

// ranked reads operands with signs of a rank, and of those that bind more, between.
func (p *parser) ranked(rank int) api.Expr {
	if rank > ranks.Last {
		return p.casts()
	}
	x := p.ranked(rank + 1)
	for ranks.Of(p.ahead().Text) == rank {
		sign := p.take()
		x = api.Expr{Kind: api.ExBin, At: sign.At, Text: sign.Text, Kids: []api.Expr{x, p.ranked(rank + 1)}}
		if rank == ranks.Compare {
			break
		}
	}
	return x
}

func (p *parser) casts() api.Expr {
	x := p.operand()
	for p.is("as") {
		at := p.take().At
		x = api.Expr{Kind: api.ExCast, At: at, Kids: []api.Expr{x}, Ty: []api.Type{p.needType()}}
	}
	return x
}

func (p *parser) operand() api.Expr {
	p.enter(p.beginsOperand())
	x := p.operandInside()
	p.leave()
	return x
}

func (p *parser) beginsOperand() bool {
	switch p.ahead().Text {
	case "-", "!", "*", "&", "true", "false", "(", "[", "if", "match", "{":
		return true
	}
	return p.isKind(api.TokName) || p.isKind(api.TokInt)
}

func (p *parser) operandInside() api.Expr {
	x := api.Expr{At: p.ahead().At}
	switch {
	case p.took("-"):
		x.Kind = api.ExNeg
	case p.took("!"):
		x.Kind = api.ExNot
	case p.took("*"):
		x.Kind = api.ExDeref
	case p.took("&"):
		x.Kind = api.ExBorrow
		if p.took("mut") {
			x.Num = 1
		}
	default:
		return p.parts(p.primary())
	}
	x.Kids = []api.Expr{p.operand()}
	return x
}

// parts reads what of a primary is meant: its fields and elements.
func (p *parser) parts(x api.Expr) api.Expr {
	for {
		at := p.ahead().At
		switch {
		case p.took("."):
			x = api.Expr{Kind: api.ExField, At: at, Text: p.needName().Text, Kids: []api.Expr{x}}
		case p.took("["):
			x = api.Expr{Kind: api.ExIndex, At: at, Kids: []api.Expr{x, p.enclosed("]")}}
		default:
			return x
		}
	}
}

// enclosed reads a tree in brackets, behind the one that opens.
func (p *parser) enclosed(closing string) (x api.Expr) {
	p.withCond(false, func() { x = p.tree() })
	p.need(closing)
	return x
}

func (p *parser) primary() api.Expr {
	at := p.ahead().At
	switch {
	case p.isKind(api.TokInt):
		v, kind := p.needInt()
		return api.Expr{Kind: api.ExInt, At: at, Num: v, Text: kind}
	case p.isKind(api.TokName):
		return p.named()
	case p.took("true"):
		return api.Expr{Kind: api.ExBool, At: at, Num: 1}
	case p.took("false"):
		return api.Expr{Kind: api.ExBool, At: at}
	case p.took("("):
		if p.took(")") {
			return api.Expr{Kind: api.ExUnit, At: at}
		}
		return p.enclosed(")")
	case p.is("["):
		return p.array()
	}
	return p.closed()
}

// named reads a primary that begins with a name. In a cond a { behind that is not the name's.
func (p *parser) named() api.Expr {
	name := p.take()
	x := api.Expr{Kind: api.ExVar, At: name.At, Text: name.Text}
	switch {
	case p.took("("):
		x.Kind = api.ExCall
		x.Kids = p.trees(")")
	case p.took("::"):
		x.Kind = api.ExVariant
		x.Text += "::" + p.needName().Text
		if p.took("(") {
			x.Kids = p.trees(")")
		}
	case !p.cond && p.took("{"):
		x.Kind = api.ExStruct
		p.list("}", func() { x.Kids = append(x.Kids, p.fieldValue()) })
	}
	return x
}

func (p *parser) trees(closing string) []api.Expr {
	var list []api.Expr
	p.list(closing, func() { list = append(list, p.tree()) })
	return list
}

func (p *parser) fieldValue() api.Expr {
	name := p.needName()
	p.need(":")
	return api.Expr{Kind: api.ExInit, At: name.At, Text: name.Text, Kids: []api.Expr{p.tree()}}
}

// array reads elements, or one and how many times it stands there.
func (p *parser) array() api.Expr {
	x := api.Expr{Kind: api.ExArray, At: p.need("[").At}
	p.list("]", func() {
		x.Kids = append(x.Kids, p.tree())
		if len(x.Kids) == 1 && p.took(";") {
			x.Kind, x.Num = api.ExRepeat, p.count()
			p.must(p.is("]"), api.ErrParse)
		}
	})
	return x
}
