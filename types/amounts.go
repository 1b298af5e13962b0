package types

import (
	"iter"
	"slices"

	"ferrule/api"
)

// mostParts is how many parts a type may have, itself among them.
const mostParts = 4 * api.MaxWords

// amount is how much a type has, or several have together: parts, words, and those of the parts that are moved, not copied.
// A type has no more words than parts, so that no sum of them is too great for an int.
type amount struct{ parts, words, moved int }

// tooMuch is the amount of a type that is not known and small.
var tooMuch = amount{parts: mostParts + 1}

func (a amount) plus(b amount) amount {
	return amount{a.parts + b.parts, a.words + b.words, a.moved + b.moved}
}

func (a amount) times(n int) amount {
	return amount{a.parts * n, a.words * n, a.moved * n}
}

// scale measures types by a program's items.
type scale struct{ items []api.Item }

func measure(l []api.Item, t api.Type) amount { return scale{l}.of(t, mostParts) }

// of tells how much a type has, if those are no more parts than room.
// Every part takes of that room: so a type that is within itself comes to an end too.
func (s scale) of(t api.Type, room int) amount {
	switch {
	case room < 1:
		return tooMuch
	case t.Kind == api.TyUnit:
		return amount{parts: 1}
	case t.Kind >= api.TyBool && t.Kind <= api.TyU32:
		return amount{parts: 1, words: 1}
	case t.Kind == api.TyNamed:
		return s.named(t.Name, room)
	case len(t.Elem) == 0:
		return tooMuch
	}
	switch t.Kind {
	case api.TyArray:
		return s.array(t.N, t.Elem[0], room)
	case api.TyRef:
		return amount{parts: 1, words: 1}
	case api.TyBox, api.TyMut:
		return amount{parts: 1, words: 1, moved: 1}
	}
	return tooMuch
}

// array measures n times an element, which is not even looked at where there is none.
func (s scale) array(n int, elem api.Type, room int) amount {
	own := amount{parts: 1}
	if n < 1 {
		return own
	}
	one := s.of(elem, (room-own.parts)/n)
	if one == tooMuch {
		return tooMuch
	}
	return own.plus(one.times(n))
}

func (s scale) named(name string, room int) amount {
	at := first(s.items, name, isType)
	switch {
	case at < 0:
		return tooMuch
	case s.items[at].Kind == api.ItStruct:
		return together(amount{parts: 1}, fieldTypes(s.items[at]), room, s.of)
	}
	return s.enum(s.items[at].Variants, room)
}

// enum measures variants: the parts of all of them count, but the words of the one that has most.
func (s scale) enum(list []api.Variant, room int) amount {
	all, most := amount{parts: 1}, 0
	for _, v := range list {
		more := together(amount{parts: all.parts, moved: all.moved}, slices.Values(v.Types), room, s.of)
		if more == tooMuch {
			return tooMuch
		}
		all, most = more, max(most, more.words)
	}
	return amount{parts: all.parts, words: 1 + most, moved: all.moved}
}

// together adds to what is there what is counted of each type of a list, in the room that is left.
func together(all amount, list iter.Seq[api.Type], room int, count func(t api.Type, room int) amount) amount {
	for t := range list {
		one := count(t, room-all.parts)
		if one == tooMuch {
			return tooMuch
		}
		all = all.plus(one)
	}
	return all
}

func fieldTypes(it api.Item) iter.Seq[api.Type] {
	return func(yield func(api.Type) bool) {
		for _, field := range it.Params {
			if !yield(field.Type) {
				return
			}
		}
	}
}
