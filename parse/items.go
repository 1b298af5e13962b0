package parse

import "ferrule/api"

func (p *parser) item() api.Item {
	switch p.ahead().Text {
	case "fn":
		return p.function()
	case "struct":
		return p.structure()
	case "enum":
		return p.enumeration()
	}
	return p.constant()
}

// head reads the word and the name that an item begins with. Unlike a tree, what is known by its name stands where that does: an item, a param, a field and a variant.
func (p *parser) head(word string, kind int) api.Item {
	p.need(word)
	name := p.needName()
	return api.Item{Kind: kind, Name: name.Text, At: name.At}
}

func (p *parser) function() api.Item {
	item := p.head("fn", api.ItFunc)
	p.need("(")
	p.list(")", func() { item.Params = append(item.Params, p.param()) })
	item.Type = api.Type{Kind: api.TyUnit}
	if p.took("->") {
		item.Type = p.needType()
	}
	item.Body = p.block()
	return item
}

func (p *parser) structure() api.Item {
	item := p.head("struct", api.ItStruct)
	p.need("{")
	p.list("}", func() { item.Params = append(item.Params, p.field()) })
	return item
}

func (p *parser) enumeration() api.Item {
	item := p.head("enum", api.ItEnum)
	p.need("{")
	p.list("}", func() { item.Variants = append(item.Variants, p.variant()) })
	return item
}

func (p *parser) constant() api.Item {
	item := p.head("const", api.ItConst)
	p.need(":")
	item.Type = p.needType()
	p.need("=")
	item.Num = p.needSigned()
	p.need(";")
	return item
}

// param reads a field with mut ahead of it, if one likes.
func (p *parser) param() api.Param {
	mut := p.took("mut")
	param := p.field()
	param.Mut = mut
	return param
}

func (p *parser) field() api.Param {
	name := p.needName()
	p.need(":")
	return api.Param{Name: name.Text, Type: p.needType(), At: name.At}
}

func (p *parser) variant() api.Variant {
	name := p.needName()
	variant := api.Variant{Name: name.Text, At: name.At}
	if p.took("(") {
		p.list(")", func() { variant.Types = append(variant.Types, p.needType()) })
	}
	return variant
}
