package names

import (
	"ferrule/api"
	"ferrule/num"
	"ferrule/types"
)

// program is a program's items, as those that its types name.
type program []api.Item

// check tells what is wrong first.
func (p program) check() error {
	once := newNames(ownNames())
	return firstOf(
		func() error {
			return each(p, func(it api.Item) error { return once(it.Name, it.At) })
		},
		func() error { return each(p, p.item) },
		p.main,
	)
}

// firstOf asks one behind the other, till something is wrong.
func firstOf(asked ...func() error) error {
	return each(asked, func(ask func() error) error { return ask() })
}

// each asks of every element of a list, till something is wrong.
func each[T any](list []T, ask func(T) error) error {
	for _, x := range list {
		if wrong := ask(x); wrong != nil {
			return wrong
		}
	}
	return nil
}

// newNames makes what asks whether a name is new: neither taken from the beginning on, nor asked for ahead.
func newNames(taken set) func(name string, at int) error {
	return func(name string, at int) error {
		if _, is := taken[name]; is {
			return fault{at, api.ErrTwice}
		}
		taken[name] = struct{}{}
		return nil
	}
}

func (p program) item(it api.Item) error {
	switch it.Kind {
	case api.ItFunc:
		return p.function(it)
	case api.ItStruct:
		return p.structure(it)
	case api.ItEnum:
		return p.enumeration(it)
	case api.ItConst:
		return p.constant(it)
	}
	return fault{it.At, api.ErrForm}
}

func (p program) function(it api.Item) error {
	return firstOf(
		func() error { return p.params(it.Params, true) },
		func() error { return wrongAt(it.At, Type(p, it.Type, false)) },
		func() error { return p.passed(it) },
	)
}

func (p program) structure(it api.Item) error {
	return firstOf(
		func() error { return p.params(it.Params, false) },
		func() error { return p.itself(it) },
	)
}

func (p program) enumeration(it api.Item) error {
	once := newNames(set{})
	variant := func(v api.Variant) error {
		return firstOf(
			func() error { return once(v.Name, v.At) },
			func() error {
				return each(v.Types, func(t api.Type) error { return wrongAt(v.At, Type(p, t, false)) })
			},
		)
	}
	return firstOf(
		func() error { return each(it.Variants, variant) },
		func() error { return p.itself(it) },
	)
}

func (p program) constant(it api.Item) error {
	e := Type(p, it.Type, false)
	least, most := num.Range(it.Type.Kind)
	switch {
	case e != api.OK:
	case !num.Int(it.Type.Kind):
		e = api.ErrType
	case it.Num < least || it.Num > most:
		e = api.ErrRange
	}
	return wrongAt(it.At, e)
}

// params tells what is wrong with a function's params, which may be borrows, or with a struct's fields.
func (p program) params(list []api.Param, refs bool) error {
	once := newNames(set{})
	return each(list, func(one api.Param) error {
		return firstOf(
			func() error { return once(one.Name, one.At) },
			func() error { return wrongAt(one.At, Type(p, one.Type, refs)) },
		)
	})
}

// passed asks whether a call of a function passes, and answers, few enough words. All its types have some by then.
func (p program) passed(it api.Item) error {
	given := 0
	for _, one := range it.Params {
		given += p.words(one.Type)
	}
	if given > api.MaxPass || p.words(it.Type) > api.MaxPass {
		return fault{it.At, api.ErrWords}
	}
	return nil
}

func (p program) words(t api.Type) int {
	n, _ := types.Words(p, t)
	return n
}

// itself asks whether a struct or an enum has words: its parts may each have some, and be too many together.
func (p program) itself(it api.Item) error {
	if !p.sized(api.Type{Kind: api.TyNamed, Name: it.Name}) {
		return fault{it.At, api.ErrSize}
	}
	return nil
}

// main asks for the function that a program's run begins with; where it is wrong, the whole program is.
func (p program) main() error {
	at := types.Find(p, api.ItFunc, "main")
	if at < 0 || len(p[at].Params) > 0 || p[at].Type.Kind != api.TyUnit {
		return fault{0, api.ErrMain}
	}
	return nil
}
