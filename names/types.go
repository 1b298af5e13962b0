package names

import (
	"iter"

	"ferrule/api"
	"ferrule/types"
)

// inwards goes over a type and what it holds, from the outermost one on; each comes with how many it stands in.
func inwards(t api.Type) iter.Seq2[int, api.Type] {
	return func(yield func(deep int, t api.Type) bool) {
		for deep := 0; yield(deep, t) && holds(t.Kind) && len(t.Elem) > 0; deep++ {
			t = t.Elem[0]
		}
	}
}

// holds tells whether types of a kind hold another one.
func holds(kind int) bool { return kind >= api.TyArray && kind <= api.TyMut }

func isBorrow(kind int) bool { return kind == api.TyRef || kind == api.TyMut }

// form tells what is wrong with a type by itself, without what it holds.
func (p program) form(t api.Type, mayBorrow bool) api.Errno {
	switch {
	case isBorrow(t.Kind) && !mayBorrow:
		return api.ErrBorrow
	case t.Kind == api.TyNamed && !p.has(t.Name):
		return api.ErrName
	case t.Kind < api.TyUnit || t.Kind > api.TyMut || holds(t.Kind) && len(t.Elem) == 0:
		return api.ErrForm
	}
	return api.OK
}

// has tells whether a struct or an enum has a name.
func (p program) has(name string) bool {
	return types.Find(p, api.ItStruct, name) >= 0 || types.Find(p, api.ItEnum, name) >= 0
}

func (p program) sized(t api.Type) bool {
	_, ok := types.Words(p, t)
	return ok
}
