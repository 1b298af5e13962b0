package build

import (
	"ferrule/api"
	"ferrule/types"
)

// deepest is how many types may stand in one another: more than programs are given.
const deepest = 1 << 17

// sizes tells how values lie in words, by their types.
type sizes struct {
	items []api.Item
	where map[string]int   // where the struct or enum of each name stands
	known map[string]named // of the names that were asked for, as each is asked for again and again
}

// named is what a struct or an enum has.
type named struct {
	kind  int
	words int
	owns  bool     // there may be a Box in its values
	lists [][]part // of a struct its fields, alone; of an enum what each variant has
}

// part is a field, or one of the types of a variant: where it lies in a value, and how many words it has.
type part struct {
	typ          *api.Type
	ahead, words int
}

func newSizes(l []api.Item) sizes {
	s := sizes{l, map[string]int{}, map[string]named{}}
	for k := range l {
		is := l[k].Kind == api.ItStruct || l[k].Kind == api.ItEnum
		if _, had := s.where[l[k].Name]; is && !had {
			s.where[l[k].Name] = k
		}
	}
	return s
}

// words tells how many a type's values have. What does not go on has no value.
func (s sizes) words(t *api.Type) int {
	switch t.Kind {
	case api.TyUnit, api.TyNever:
		return 0
	case api.TyNamed:
		return s.named(t.Name).words
	case api.TyArray:
		must(len(t.Elem) == 1 && t.N >= 0 && t.N <= 4*api.MaxWords)
		n := t.N * s.words(&t.Elem[0])
		must(n <= api.MaxWords)
		return n
	}
	must(t.Kind >= api.TyBool && t.Kind <= api.TyMut)
	return 1
}

// owns tells whether there may be a Box in a type's values.
func (s sizes) owns(t *api.Type) bool {
	switch t.Kind {
	case api.TyBox:
		return true
	case api.TyNamed:
		return s.named(t.Name).owns
	case api.TyArray:
		return t.N > 0 && len(t.Elem) == 1 && s.owns(&t.Elem[0])
	}
	return false
}

func (s sizes) named(name string) named {
	if n, had := s.known[name]; had {
		return n
	}
	at, is := s.where[name]
	must(is)
	t := api.Type{Kind: api.TyNamed, Name: name}
	words, sized := types.Words(s.items, t)
	must(sized)
	it := &s.items[at]
	n := named{kind: it.Kind, words: words, owns: !types.Copy(s.items, t)}
	if it.Kind == api.ItStruct {
		n.lists = [][]part{s.fields(it.Params)}
	} else {
		n.lists = s.variants(it.Variants)
	}
	s.known[name] = n
	return n
}

func (s sizes) fields(list []api.Param) []part {
	var out []part
	ahead := 0
	for k := range list {
		n := s.words(&list[k].Type)
		out = append(out, part{&list[k].Type, ahead, n})
		ahead += n
	}
	return out
}

func (s sizes) variants(list []api.Variant) [][]part {
	var out [][]part
	for k := range list {
		var parts []part
		ahead := 1 // behind the word that tells which variant it is
		for at := range list[k].Types {
			t := &list[k].Types[at]
			n := s.words(t)
			parts = append(parts, part{t, ahead, n})
			ahead += n
		}
		out = append(out, parts)
	}
	return out
}

// structOf tells the fields of a type that is a struct.
func (s sizes) structOf(t *api.Type) []part {
	must(t.Kind == api.TyNamed)
	n := s.named(t.Name)
	must(n.kind == api.ItStruct)
	return n.lists[0]
}

// enumOf tells the variants of a type that is an enum.
func (s sizes) enumOf(t *api.Type) [][]part {
	must(t.Kind == api.TyNamed)
	n := s.named(t.Name)
	must(n.kind == api.ItEnum)
	return n.lists
}

// pointedBy tells what a type points to that is a Box or a borrow.
func pointedBy(t *api.Type) *api.Type {
	must(t.Kind >= api.TyBox && t.Kind <= api.TyMut && len(t.Elem) == 1)
	return &t.Elem[0]
}

// cloned is a type in new memory.
func cloned(t api.Type) api.Type {
	at := &t
	for deep := 0; len(at.Elem) > 0; deep++ {
		must(len(at.Elem) == 1 && deep < deepest)
		at.Elem = []api.Type{at.Elem[0]}
		at = &at.Elem[0]
	}
	at.Elem = nil
	return t
}
