package drops

import (
	"strconv"

	"ferrule/api"
	"ferrule/types"
)

// form is what makes a type: types of one form are one kind.
type form struct {
	kind, n int
	name    string
	elem    *kind
}

// kind is a type, and what is let go with its values.
type kind struct {
	typ   *api.Type
	elem  *kind // what it is of; nil: nothing
	words int   // of a value
	sized bool  // types tells them
	long  int   // its text has no more bytes

	opened bool // what stands below is worked out
	work   int  // Boxes of a value, lists and arrays, each once, that are gone through to let it go; 0: it owns nothing
	enum   bool
	lists  []list // of a struct, its fields, alone; of an enum, its variants: those that own something

	dropper string // the name of the function that lets a value go, once there is one
}

// list is parts one behind the other, of a struct, or of one of an enum's variants: those that own something.
type list struct {
	which int
	parts []part
}

// part is one of a value: how many words stand ahead of it, and its kind.
type part struct {
	ahead int
	kind  *kind
}

// kinds are those of a program's types.
type kinds struct {
	items []api.Item
	where map[string]int // where the struct or enum of each name stands
	known map[form]*kind
}

func newKinds(items []api.Item) kinds {
	k := kinds{items, map[string]int{}, map[form]*kind{}}
	for at := range items {
		is := items[at].Kind == api.ItStruct || items[at].Kind == api.ItEnum
		if _, had := k.where[items[at].Name]; is && !had {
			k.where[items[at].Name] = at
		}
	}
	return k
}

// of tells the kind of a type.
func (k kinds) of(t *api.Type) *kind {
	f := form{kind: t.Kind}
	long := len("&mut [; ]") + len(strconv.Itoa(t.N)) + len(t.Name)
	switch {
	case t.Kind == api.TyNamed:
		f.name = t.Name
	case api.TyArray <= t.Kind && t.Kind <= api.TyMut && len(t.Elem) > 0:
		f.elem = k.of(&t.Elem[0])
		long += f.elem.long
	}
	if t.Kind == api.TyArray {
		f.n = t.N
	}
	if x, had := k.known[f]; had {
		return x
	}
	x := &kind{typ: t, elem: f.elem, long: long}
	x.words, x.sized = types.Words(k.items, *t)
	k.known[f] = x
	return x
}

// owns tells whether there is something in a kind's values that is let go with them.
func (k kinds) owns(x *kind) bool { return k.open(x).work > 0 }

// open works out what a kind's values own. That is asked only once it is needed, as what a Box points to may have such a Box itself.
func (k kinds) open(x *kind) *kind {
	if x.opened {
		return x
	}
	x.opened = true
	switch x.typ.Kind {
	case api.TyBox:
		x.work = 1
	case api.TyArray:
		// Elements have a place only if their words are known.
		if x.typ.N > 0 && x.elem != nil && x.elem.sized && k.owns(x.elem) {
			x.work = 1 + x.elem.work
		}
	case api.TyNamed:
		if at, is := k.where[x.typ.Name]; is {
			x.enum = k.items[at].Kind == api.ItEnum
			x.lists = k.lists(&k.items[at])
		}
		for _, l := range x.lists {
			x.work += 1 + l.work()
		}
	}
	return x
}

func (l list) work() int {
	sum := 0
	for _, p := range l.parts {
		sum += p.kind.work
	}
	return sum
}

// lists tells what a struct or an enum has that owns something.
func (k kinds) lists(it *api.Item) []list {
	var out []list
	add := func(which, ahead, count int, typ func(at int) *api.Type) {
		if parts := k.parts(ahead, count, typ); len(parts) > 0 {
			out = append(out, list{which, parts})
		}
	}
	if it.Kind == api.ItStruct {
		add(0, 0, len(it.Params), func(at int) *api.Type { return &it.Params[at].Type })
		return out
	}
	for which := range it.Variants {
		types := it.Variants[which].Types
		add(which, 1, len(types), func(at int) *api.Type { return &types[at] })
	}
	return out
}

// parts tells those of a list of types that own something. Behind one whose words nobody knows no other one has a place.
func (k kinds) parts(ahead, count int, typ func(at int) *api.Type) []part {
	var out []part
	for at := range count {
		x := k.of(typ(at))
		if !x.sized {
			break
		}
		if k.owns(x) {
			out = append(out, part{ahead, x})
		}
		ahead += x.words
	}
	return out
}

// pointsToOwner tells whether a Box points to something that owns something itself.
func (k kinds) pointsToOwner(box *kind) bool { return box.elem != nil && k.owns(box.elem) }

// isLone tells whether one Box is all that is let go with a value of a kind, and is there whatever stands in the value.
func (k kinds) isLone(x *kind) bool {
	switch k.open(x); {
	case x.typ.Kind == api.TyBox:
		return true
	case x.typ.Kind == api.TyArray:
		return x.typ.N == 1 && k.isLone(x.elem)
	}
	return len(x.lists) == 1 && !x.enum && len(x.lists[0].parts) == 1 && k.isLone(x.lists[0].parts[0].kind)
}
