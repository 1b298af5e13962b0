package types

import (
	"math"
	"strconv"
	"testing"

	"ferrule/api"
)

func ty(kind int, elem ...api.Type) api.Type { return api.Type{Kind: kind, Elem: elem} }

func named(name string) api.Type { return api.Type{Kind: api.TyNamed, Name: name} }

func array(n int, elem ...api.Type) api.Type {
	return api.Type{Kind: api.TyArray, N: n, Elem: elem}
}

var unit, u8 = api.Type{Kind: api.TyUnit}, api.Type{Kind: api.TyU8}

// structure is a struct whose fields are named f0, f1 and so on.
func structure(name string, fields ...api.Type) api.Item {
	it := api.Item{Kind: api.ItStruct, Name: name}
	for k, t := range fields {
		it.Params = append(it.Params, api.Param{Name: "f" + strconv.Itoa(k), Type: t})
	}
	return it
}

// enum is one whose variants are named V0, V1 and so on.
func enum(name string, variants ...[]api.Type) api.Item {
	it := api.Item{Kind: api.ItEnum, Name: name}
	for k, list := range variants {
		it.Variants = append(it.Variants, api.Variant{Name: "V" + strconv.Itoa(k), Types: list})
	}
	return it
}

func of(list ...api.Type) []api.Type { return list }

// many is one type n times.
func many(n int, t api.Type) []api.Type {
	var list []api.Type
	for range n {
		list = append(list, t)
	}
	return list
}

// wrapped is a type within n arrays of one element.
func wrapped(n int, t api.Type) api.Type {
	for range n {
		t = array(1, t)
	}
	return t
}

// held is what a type comes to: its words, or -1 where it is refused; whether it is copied.
type held struct {
	words  int
	copied bool
}

// told is what the package answers of a type.
func told(t *testing.T, l []api.Item, x api.Type) held {
	n, ok := Words(l, x)
	if !ok && n != 0 {
		t.Errorf("Words refuses %v and tells %d", x, n)
	}
	if !ok {
		n = -1
	}
	return held{n, Copy(l, x)}
}

// belongs is the chapter's own words, gone after one by one: all parts are laid into a list, and asked.
func belongs(l []api.Item, x api.Type) held {
	all := []api.Type{x}
	for k := 0; k < len(all); k++ {
		if len(all) > 4*128 || !known(l, all[k]) {
			return held{-1, false}
		}
		all = append(all, partsOf(l, all[k])...)
	}
	h := held{plainWords(l, x), true}
	for _, p := range all {
		h.copied = h.copied && p.Kind != api.TyBox && p.Kind != api.TyMut
	}
	if h.words > 128 {
		h.words = -1
	}
	return h
}

func known(l []api.Item, x api.Type) bool {
	switch x.Kind {
	case 1, 2, 3, 4, 5, 6, 7, 8:
		return true
	case 10, 11, 12, 13:
		return len(x.Elem) > 0
	}
	return x.Kind == 9 && typeItem(l, x.Name) != nil
}

func typeItem(l []api.Item, name string) *api.Item {
	for k, it := range l {
		if it.Name == name && (it.Kind == 2 || it.Kind == 3) {
			return &l[k]
		}
	}
	return nil
}

// partsOf is a type's parts, of which more than may be are left out.
func partsOf(l []api.Item, x api.Type) []api.Type {
	var list []api.Type
	if x.Kind == api.TyArray {
		return many(int(math.Min(float64(x.N), 600)), x.Elem[0])
	}
	if x.Kind == api.TyNamed {
		it := typeItem(l, x.Name)
		if it.Kind == 2 {
			for _, f := range it.Params {
				list = append(list, f.Type)
			}
			return list
		}
		for _, v := range it.Variants {
			list = append(list, v.Types...)
		}
	}
	return list
}

// plainWords counts the words of a type that is known and small.
func plainWords(l []api.Item, x api.Type) int {
	n := 0
	switch {
	case x.Kind == api.TyUnit:
		return 0
	case x.Kind == api.TyNamed && typeItem(l, x.Name).Kind == 3:
		for _, v := range typeItem(l, x.Name).Variants {
			one := 0
			for _, t := range v.Types {
				one += plainWords(l, t)
			}
			n = max(n, one)
		}
		return 1 + n
	case x.Kind == api.TyArray || x.Kind == api.TyNamed:
		for _, p := range partsOf(l, x) {
			n += plainWords(l, p)
		}
		return n
	}
	return 1
}
