package show

import (
	"strconv"

	"ferrule/api"
)

func (t *teller) program(l []api.Item) forms {
	told := word("")
	for _, it := range l {
		told = join(told, t.item(it))
		if len(told) == 0 {
			break
		}
	}
	return told
}

func (t *teller) item(it api.Item) forms {
	name := word(it.Name)
	switch it.Kind {
	case api.ItFunc:
		return join(word("fn"), name, word("("), list(it.Params, t.param), word(")"), t.answer(it.Type), t.written(it.Body))
	case api.ItStruct:
		return join(word("struct"), name, word("{"), list(it.Params, t.param), word("}"))
	case api.ItEnum:
		return join(word("enum"), name, word("{"), list(it.Variants, t.variant), word("}"))
	case api.ItConst:
		return join(word("const"), name, word(":"), t.typed(it.Type), word("="), word(strconv.Itoa(it.Num)), word(";"))
	}
	return nil
}

func (t *teller) param(p api.Param) forms {
	return join(mut(p.Mut), word(p.Name), word(":"), t.typed(p.Type))
}

func (t *teller) variant(v api.Variant) forms {
	return join(word(v.Name), bracketed(v.Types, t.typed))
}

// answer tells what a function's type is written as behind its params.
func (t *teller) answer(of api.Type) forms {
	if of.Kind == api.TyUnit {
		return word("")
	}
	return join(word("->"), t.typed(of))
}
