package mir

import (
	"slices"

	"ferrule/api"
	"ferrule/types"
)

// owned tells what types have that is let go with their values.
type owned struct {
	items []api.Item
	named map[string]int     // where the struct or enum of each name stands
	known map[*api.Type]told // of the types that were asked for, as each is asked for again and again
}

// told is how many words a type's values have, if types tells that, and whether a Box may be among their parts.
type told struct {
	words int
	sized bool
	boxes bool
}

func newOwned(items []api.Item) owned {
	o := owned{items: items, named: map[string]int{}, known: map[*api.Type]told{}}
	for k := range items {
		is := items[k].Kind == api.ItStruct || items[k].Kind == api.ItEnum
		if _, had := o.named[items[k].Name]; is && !had {
			o.named[items[k].Name] = k
		}
	}
	return o
}

func (o owned) of(t *api.Type) told {
	if k, had := o.known[t]; had {
		return k
	}
	k := told{boxes: true}
	if k.words, k.sized = types.Words(o.items, *t); k.sized {
		k.boxes = o.hasBox(t)
	}
	o.known[t] = k
	return k
}

// hasBox tells whether a Box is among the parts of a type whose words types tells: those of others may have no end.
func (o owned) hasBox(t *api.Type) bool {
	switch t.Kind {
	case api.TyBox:
		return true
	case api.TyArray:
		return t.N > 0 && o.hasBox(&t.Elem[0])
	case api.TyNamed:
		return slices.ContainsFunc(o.lists(t.Name), func(list []*api.Type) bool { return slices.ContainsFunc(list, o.hasBox) })
	}
	return false
}

// lists tells the types of a struct's fields, or those of each variant of an enum.
func (o owned) lists(name string) [][]*api.Type {
	it := o.item(name)
	if it.Kind != api.ItEnum {
		return [][]*api.Type{fieldTypes(it)}
	}
	var out [][]*api.Type
	for k := range it.Variants {
		out = append(out, variantTypes(it, k))
	}
	return out
}

// item tells the struct or enum of a name; an item without any parts, if there is none.
func (o owned) item(name string) *api.Item {
	if k, is := o.named[name]; is {
		return &o.items[k]
	}
	return &api.Item{}
}

func fieldTypes(it *api.Item) []*api.Type {
	var out []*api.Type
	for k := range it.Params {
		out = append(out, &it.Params[k].Type)
	}
	return out
}

// variantTypes tells the types of one of an enum's variants; none, if it has no such variant.
func variantTypes(it *api.Item, which int) []*api.Type {
	var out []*api.Type
	if which >= 0 && which < len(it.Variants) {
		list := it.Variants[which].Types
		for k := range list {
			out = append(out, &list[k])
		}
	}
	return out
}

// letGo lets the value of a type go that stands at an address. Of a value without Boxes nothing is used.
func (r *run) letGo(t *api.Type, at uint32) {
	if !r.owned.of(t).boxes {
		return
	}
	switch t.Kind {
	case api.TyBox:
		r.letBoxGo(t, at)
	case api.TyArray:
		r.letElementsGo(t, at)
	case api.TyNamed:
		r.letPartsGo(r.owned.item(t.Name), at)
	}
}

// letBoxGo lets go what a Box points to, then its block.
// A block that is not in use, or that a Box around this one has, is refused behind that anyway, and Boxes in a circle have no behind: so it is refused ahead of it.
func (r *run) letBoxGo(t *api.Type, at uint32) {
	to := uint32(*r.at(at))
	if !r.heap.Within(int(to), 1) || slices.Contains(r.open, to) {
		trap()
	}
	if len(t.Elem) > 0 {
		r.open = append(r.open, to)
		r.letGo(&t.Elem[0], to)
		r.open = r.open[:len(r.open)-1]
	}
	r.free(to)
}

func (r *run) letElementsGo(t *api.Type, at uint32) {
	if len(t.Elem) == 0 {
		return
	}
	// Elements with Boxes have words, each of which is used: so even the greatest N comes to memory's end soon.
	elem := r.owned.of(&t.Elem[0])
	if !elem.sized || !elem.boxes {
		return
	}
	for range t.N {
		r.letGo(&t.Elem[0], at)
		at += 4 * uint32(elem.words)
	}
}

func (r *run) letPartsGo(it *api.Item, at uint32) {
	if it.Kind != api.ItEnum {
		r.letInOrder(fieldTypes(it), at)
		return
	}
	which := int(*r.at(at))
	r.letInOrder(variantTypes(it, which), at+4)
}

// letInOrder lets parts go that lie one behind the other. Behind one whose words types does not tell no other one has a place.
func (r *run) letInOrder(parts []*api.Type, at uint32) {
	for _, t := range parts {
		part := r.owned.of(t)
		if !part.sized {
			return
		}
		r.letGo(t, at)
		at += 4 * uint32(part.words)
	}
}
