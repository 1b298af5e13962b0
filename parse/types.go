package parse

import (
	"ferrule/api"
	"ferrule/lex"
)

// maxCount is the greatest int of [ ; ].
const maxCount = 65535

func (p *parser) needType() api.Type {
	p.enter(p.isKind(api.TokName) || p.is("(") || p.is("[") || p.is("&"))
	t := p.typeInside()
	p.leave()
	return t
}

func (p *parser) typeInside() api.Type {
	first := p.take().Text
	switch first {
	case "(":
		p.need(")")
		return api.Type{Kind: api.TyUnit}
	case "[":
		return p.arrayType()
	case "&":
		return p.borrowType()
	case "Box":
		return p.boxType()
	}
	return namedType(first)
}

func (p *parser) arrayType() api.Type {
	elem := p.needType()
	p.need(";")
	count := p.count()
	p.need("]")
	return api.Type{Kind: api.TyArray, N: count, Elem: []api.Type{elem}}
}

func (p *parser) borrowType() api.Type {
	kind := api.TyRef
	if p.took("mut") {
		kind = api.TyMut
	}
	return api.Type{Kind: kind, Elem: []api.Type{p.needType()}}
}

func (p *parser) boxType() api.Type {
	p.need("<")
	elem := p.needType()
	p.closeBox()
	return api.Type{Kind: api.TyBox, Elem: []api.Type{elem}}
}

// closeBox takes a >. Of >> it takes the first half, and leaves the other one as the sign > where that stands.
func (p *parser) closeBox() {
	if p.is(">>") {
		p.tokens[p.next] = api.Token{Kind: api.TokSign, Text: ">", At: p.ahead().At + 1}
		return
	}
	p.need(">")
}

func namedType(name string) api.Type {
	switch name {
	case "bool":
		return api.Type{Kind: api.TyBool}
	case "i8":
		return api.Type{Kind: api.TyI8}
	case "i16":
		return api.Type{Kind: api.TyI16}
	case "i32":
		return api.Type{Kind: api.TyI32}
	case "u8":
		return api.Type{Kind: api.TyU8}
	case "u16":
		return api.Type{Kind: api.TyU16}
	case "u32":
		return api.Type{Kind: api.TyU32}
	}
	return api.Type{Kind: api.TyNamed, Name: name}
}

// count reads the int of [ ; ], and takes it only when nothing is wrong with it: its faults are told where it stands.
func (p *parser) count() int {
	p.must(p.isKind(api.TokInt), api.ErrParse)
	v, kind, _ := lex.Number(p.ahead().Text)
	p.must(v <= maxCount, api.ErrNumber)
	p.must(kind == "", api.ErrParse)
	p.take()
	return v
}
