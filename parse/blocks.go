package parse

import "ferrule/api"

func (p *parser) block() api.Expr {
	p.enter(p.is("{"))
	x := api.Expr{Kind: api.ExBlock, At: p.take().At}
	p.withCond(false, func() {
		for x.Num == 0 && !p.is("}") {
			kid, value := p.statement()
			x.Kids = append(x.Kids, kid)
			x.Num = value
		}
	})
	p.need("}")
	p.leave()
	return x
}

// statement tells a statement and 0; or a block's value and 1, and then the block's end comes next.
func (p *parser) statement() (api.Expr, int) {
	switch p.ahead().Text {
	case "let":
		return p.let(), 0
	case "while":
		return p.while(), 0
	case "loop":
		return p.loop(), 0
	case "break":
		return p.jump(api.ExBreak), 0
	case "continue":
		return p.jump(api.ExNext), 0
	case "return":
		return p.answer(), 0
	case "if", "match", "{":
		return p.closedStatement()
	}
	return p.treeStatement()
}

func (p *parser) let() api.Expr {
	x := api.Expr{Kind: api.ExLet, At: p.take().At}
	if p.took("mut") {
		x.Num = 1
	}
	x.Text = p.needName().Text
	if p.took(":") {
		x.Ty = []api.Type{p.needType()}
	}
	p.need("=")
	x.Kids = []api.Expr{p.tree()}
	p.need(";")
	return x
}

func (p *parser) while() api.Expr {
	at := p.take().At
	asked := p.condition()
	return api.Expr{Kind: api.ExWhile, At: at, Kids: []api.Expr{asked, p.block()}}
}

func (p *parser) loop() api.Expr {
	at := p.take().At
	return api.Expr{Kind: api.ExLoop, At: at, Kids: []api.Expr{p.block()}}
}

func (p *parser) jump(kind int) api.Expr {
	at := p.take().At
	p.need(";")
	return api.Expr{Kind: kind, At: at}
}

func (p *parser) answer() api.Expr {
	x := api.Expr{Kind: api.ExReturn, At: p.take().At}
	if !p.is(";") {
		x.Kids = []api.Expr{p.tree()}
	}
	p.need(";")
	return x
}

// closedStatement reads no further than to what closes it, whatever sign stands behind that.
func (p *parser) closedStatement() (api.Expr, int) {
	at := p.ahead().At
	x := p.closed()
	if !p.took(";") && p.is("}") {
		return x, 1
	}
	return api.Expr{Kind: api.ExStmt, At: at, Kids: []api.Expr{x}}, 0
}

func (p *parser) treeStatement() (api.Expr, int) {
	at := p.ahead().At
	x := p.tree()
	if p.is("}") {
		return x, 1
	}
	if p.is("=") {
		sign := p.take()
		x = api.Expr{Kind: api.ExAssign, At: sign.At, Kids: []api.Expr{x, p.tree()}}
	} else {
		x = api.Expr{Kind: api.ExStmt, At: at, Kids: []api.Expr{x}}
	}
	p.need(";")
	return x, 0
}

// condition reads a cond.
func (p *parser) condition() (x api.Expr) {
	p.withCond(true, func() { x = p.tree() })
	return x
}

func (p *parser) closed() api.Expr {
	switch p.ahead().Text {
	case "if":
		return p.ifTree()
	case "match":
		return p.matchTree()
	}
	return p.block()
}

func (p *parser) ifTree() api.Expr {
	p.enter(p.is("if"))
	x := api.Expr{Kind: api.ExIf, At: p.take().At}
	x.Kids = append(x.Kids, p.condition())
	x.Kids = append(x.Kids, p.block())
	if p.took("else") {
		x.Kids = append(x.Kids, p.otherwise())
	}
	p.leave()
	return x
}

func (p *parser) otherwise() api.Expr {
	if p.is("if") {
		return p.ifTree()
	}
	return p.block()
}

func (p *parser) matchTree() api.Expr {
	p.enter(p.is("match"))
	x := api.Expr{Kind: api.ExMatch, At: p.take().At}
	x.Kids = append(x.Kids, p.condition())
	p.need("{")
	p.list("}", func() { x.Kids = append(x.Kids, p.arm()) })
	p.leave()
	return x
}

func (p *parser) arm() api.Expr {
	x := api.Expr{Kind: api.ExArm, At: p.ahead().At}
	x.Kids = append(x.Kids, p.pattern())
	p.need("=>")
	x.Kids = append(x.Kids, p.tree())
	return x
}

func (p *parser) pattern() api.Expr {
	at := p.ahead().At
	switch {
	case p.took("_"):
		return api.Expr{Kind: api.PaAny, At: at}
	case p.took("true"):
		return api.Expr{Kind: api.PaBool, At: at, Num: 1}
	case p.took("false"):
		return api.Expr{Kind: api.PaBool, At: at}
	case p.isKind(api.TokName):
		return p.variantPattern()
	}
	return api.Expr{Kind: api.PaInt, At: at, Num: p.needSigned()}
}

// variantPattern reads the name of a variant, and names for what it has: among those _ is one, but no part of the variant's own name.
func (p *parser) variantPattern() api.Expr {
	enum := p.take()
	p.need("::")
	p.must(!p.is("_"), api.ErrParse)
	x := api.Expr{Kind: api.PaVariant, At: enum.At, Text: enum.Text + "::" + p.needName().Text}
	if p.took("(") {
		p.list(")", func() {
			name := p.needName()
			x.Kids = append(x.Kids, api.Expr{Kind: api.PaBind, At: name.At, Text: name.Text})
		})
	}
	return x
}
