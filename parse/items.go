package parse

import "ferrule/api"

func (p *parser) item() api.Item {
	switch p.ahead().Text {
	case "fn":
		return p.function()
	case "struct":
		return p.structure()
	case "enum":
		return p.enumeration()
	}
	return p.constant()
}

func (p *parser) function() api.Item {
	item := api.Item{Kind: api.ItFunc, At: p.need("fn").At}
	item.Name = p.needName().Text
	p.need("(")
	p.list(")", func() { item.Params = append(item.Params, p.param()) })
	item.Type = api.Type{Kind: api.TyUnit}
	if p.took("->") {
		item.Type = p.needType()
	}
	item.Body = p.block()
	return item
}

func (p *parser) structure() api.Item {
	item := api.Item{Kind: api.ItStruct, At: p.need("struct").At}
	item.Name = p.needName().Text
	p.need("{")
	p.list("}", func() { item.Params = append(item.Params, p.field()) })
	return item
}

func (p *parser) enumeration() api.Item {
	item := api.Item{Kind: api.ItEnum, At: p.need("enum").At}
	item.Name = p.needName().Text
	p.need("{")
	p.list("}", func() { item.Variants = append(item.Variants, p.variant()) })
	return item
}

func (p *parser) constant() api.Item {
	item := api.Item{Kind: api.ItConst, At: p.need("const").At}
	item.Name = p.needName().Text
	p.need(":")
	item.Type = p.needType()
	p.need("=")
	item.Num = p.needSigned()
	p.need(";")
	return item
}

// param reads a field with mut ahead of it, if one likes; it begins with that.
func (p *parser) param() api.Param {
	at := p.ahead().At
	mut := p.took("mut")
	param := p.field()
	param.At, param.Mut = at, mut
	return param
}

func (p *parser) field() api.Param {
	name := p.needName()
	p.need(":")
	return api.Param{Name: name.Text, Type: p.needType(), At: name.At}
}

func (p *parser) variant() api.Variant {
	name := p.needName()
	variant := api.Variant{Name: name.Text, At: name.At}
	if p.took("(") {
		p.list(")", func() { variant.Types = append(variant.Types, p.needType()) })
	}
	return variant
}
