package names

import (
	"strconv"
	"strings"
	"testing"

	"ferrule/api"
	"ferrule/parse"
	"ferrule/types"
)

func ty(kind int, elem ...api.Type) api.Type { return api.Type{Kind: kind, Elem: elem} }

func named(name string) api.Type { return api.Type{Kind: api.TyNamed, Name: name} }

func array(n int, elem ...api.Type) api.Type {
	return api.Type{Kind: api.TyArray, N: n, Elem: elem}
}

func box(t api.Type) api.Type { return ty(api.TyBox, t) }

func ref(t api.Type) api.Type { return ty(api.TyRef, t) }

func mut(t api.Type) api.Type { return ty(api.TyMut, t) }

func of(list ...api.Type) []api.Type { return list }

var unit, u8 = api.Type{Kind: api.TyUnit}, api.Type{Kind: api.TyU8}

// many is one type n times.
func many(n int, t api.Type) []api.Type {
	var list []api.Type
	for range n {
		list = append(list, t)
	}
	return list
}

// wrapped is a type within n others.
func wrapped(n int, wrap func(api.Type) api.Type, t api.Type) api.Type {
	for range n {
		t = wrap(t)
	}
	return t
}

// Items that are made here are named, as are their parts, by where they stand: no two of a program by one name, no two at one place.

func params(at int, list ...api.Type) []api.Param {
	var out []api.Param
	for k, t := range list {
		out = append(out, api.Param{Name: "p" + strconv.Itoa(k), Type: t, At: at + 1 + k})
	}
	return out
}

func structure(name string, at int, fields ...api.Type) api.Item {
	return api.Item{Kind: api.ItStruct, Name: name, At: at, Params: params(at, fields...)}
}

func function(name string, at int, answer api.Type, list ...api.Type) api.Item {
	return api.Item{Kind: api.ItFunc, Name: name, At: at, Params: params(at, list...), Type: answer}
}

func enum(name string, at int, variants ...[]api.Type) api.Item {
	it := api.Item{Kind: api.ItEnum, Name: name, At: at}
	for k, list := range variants {
		it.Variants = append(it.Variants, api.Variant{Name: "V" + strconv.Itoa(k), Types: list, At: at + 1 + k})
	}
	return it
}

func constant(name string, at int, t api.Type, v int) api.Item {
	return api.Item{Kind: api.ItConst, Name: name, At: at, Type: t, Num: v}
}

func mainAt(at int) api.Item { return function("main", at, unit) }

// told is what Check answers.
type told struct {
	at int
	e  api.Errno
}

func want(t *testing.T, l []api.Item, at int, e api.Errno) {
	t.Helper()
	if gotAt, got := Check(l); gotAt != at || got != e {
		t.Errorf("Check of %.300s: %d at %d, not %d at %d", tell(l), int(got), gotAt, int(e), at)
	}
}

// wantText asks of a text in which an @ marks where something is wrong; it is taken out ahead of the call. None: it is at 0.
func wantText(t *testing.T, marked string, e api.Errno) {
	t.Helper()
	at := max(0, strings.Index(marked, "@"))
	l, _, wrong := parse.Parse(strings.Replace(marked, "@", "", 1))
	if wrong != api.OK {
		t.Fatalf("%s: no program, %d", marked, int(wrong))
	}
	if gotAt, got := Check(l); gotAt != at || got != e {
		t.Errorf("%.300s: %d at %d, not %d at %d", marked, int(got), gotAt, int(e), at)
	}
}

func wantType(t *testing.T, l []api.Item, x api.Type, refs bool, e api.Errno) {
	t.Helper()
	if got := Type(l, x, refs); got != e {
		t.Errorf("Type of %.300s with refs %v: %d, not %d", tellType(x), refs, int(got), int(e))
	}
}

// tell tells items for a test's messages.
func tell(l []api.Item) string {
	text := ""
	for _, it := range l {
		text += " " + strconv.Itoa(it.Kind) + ":" + it.Name + "@" + strconv.Itoa(it.At) + "("
		for _, p := range it.Params {
			text += " " + p.Name + "@" + strconv.Itoa(p.At) + ":" + tellType(p.Type)
		}
		for _, v := range it.Variants {
			text += " " + v.Name + "@" + strconv.Itoa(v.At)
			for _, x := range v.Types {
				text += "," + tellType(x)
			}
		}
		text += ")" + tellType(it.Type) + "#" + strconv.Itoa(it.Num)
	}
	return text
}

func tellType(t api.Type) string {
	text := strconv.Itoa(t.Kind) + t.Name
	if t.N != 0 {
		text += "x" + strconv.Itoa(t.N)
	}
	for _, x := range t.Elem {
		text += "<" + tellType(x) + ">"
	}
	return text
}

// chain is a type and what it holds, from the outermost one on.
func chain(t api.Type) []api.Type {
	list := of(t)
	for t.Kind >= 10 && t.Kind <= 13 && len(t.Elem) > 0 {
		t = t.Elem[0]
		list = append(list, t)
	}
	return list
}

// typeBelongs is what the chapter's words say of a type, gone after one by one.
func typeBelongs(l []api.Item, t api.Type, refs bool) api.Errno {
	for k, x := range chain(t) {
		if (x.Kind == 12 || x.Kind == 13) && (k > 0 || !refs) {
			return 57
		}
		switch x.Kind {
		case 1, 2, 3, 4, 5, 6, 7, 8:
		case 9:
			found := false
			for _, it := range l {
				found = found || it.Name == x.Name && (it.Kind == 2 || it.Kind == 3)
			}
			if !found {
				return 41
			}
		case 10, 11, 12, 13:
			if len(x.Elem) == 0 {
				return 10
			}
		default:
			return 10
		}
	}
	for _, x := range chain(t) {
		if _, ok := types.Words(l, x); !ok {
			return 43
		}
	}
	return 0
}

// belongs is what the chapter's words say of a program: everything that is wrong with it is listed, in order, and the first one taken.
func belongs(l []api.Item) told {
	all := twice(l)
	for _, it := range l {
		all = append(all, itemFaults(l, it)...)
	}
	all = append(all, mainFaults(l)...)
	if len(all) == 0 {
		return told{}
	}
	return all[0]
}

func twice(l []api.Item) []told {
	var all []told
	for k, it := range l {
		if strings.Contains(" print read unbox replace Box bool i8 i16 i32 u8 u16 u32 ", " "+it.Name+" ") && it.Name != "" && !strings.Contains(it.Name, " ") {
			all = append(all, told{it.At, 40})
		}
		for _, other := range l[:k] {
			if other.Name == it.Name {
				all = append(all, told{it.At, 40})
			}
		}
	}
	return all
}

func itemFaults(l []api.Item, it api.Item) []told {
	switch it.Kind {
	case 1:
		all := paramFaults(l, it.Params, true)
		all = append(all, typeFault(l, it.At, it.Type, false)...)
		n := 0
		for _, p := range it.Params {
			n += plainWords(l, p.Type)
		}
		if n > 8 || plainWords(l, it.Type) > 8 {
			all = append(all, told{it.At, 73})
		}
		return all
	case 2:
		return append(paramFaults(l, it.Params, false), selfFault(l, it)...)
	case 3:
		return append(variantFaults(l, it.Variants), selfFault(l, it)...)
	case 4:
		return append(typeFault(l, it.At, it.Type, false), constantFaults(it)...)
	}
	return []told{{it.At, 10}}
}

func plainWords(l []api.Item, t api.Type) int {
	n, _ := types.Words(l, t)
	return n
}

func typeFault(l []api.Item, at int, t api.Type, refs bool) []told {
	if e := typeBelongs(l, t, refs); e != 0 {
		return []told{{at, e}}
	}
	return nil
}

func paramFaults(l []api.Item, list []api.Param, refs bool) []told {
	var all []told
	for k, p := range list {
		for _, other := range list[:k] {
			if other.Name == p.Name {
				all = append(all, told{p.At, 40})
			}
		}
		all = append(all, typeFault(l, p.At, p.Type, refs)...)
	}
	return all
}

func variantFaults(l []api.Item, list []api.Variant) []told {
	var all []told
	for k, v := range list {
		for _, other := range list[:k] {
			if other.Name == v.Name {
				all = append(all, told{v.At, 40})
			}
		}
		for _, t := range v.Types {
			all = append(all, typeFault(l, v.At, t, false)...)
		}
	}
	return all
}

func selfFault(l []api.Item, it api.Item) []told {
	if _, ok := types.Words(l, named(it.Name)); !ok {
		return []told{{it.At, 43}}
	}
	return nil
}

func constantFaults(it api.Item) []told {
	ends := map[int][2]int{3: {-128, 127}, 4: {-32768, 32767}, 5: {-2147483648, 2147483647}, 6: {0, 255}, 7: {0, 65535}, 8: {0, 4294967295}}
	end, ok := ends[it.Type.Kind]
	switch {
	case !ok:
		return []told{{it.At, 50}}
	case it.Num < end[0] || it.Num > end[1]:
		return []told{{it.At, 56}}
	}
	return nil
}

func mainFaults(l []api.Item) []told {
	for _, it := range l {
		if it.Kind == 1 && it.Name == "main" && len(it.Params) == 0 && it.Type.Kind == 1 {
			return nil
		}
	}
	return []told{{0, 42}}
}

// writtenTypes is each type that stands in a program's items.
func writtenTypes(l []api.Item) []api.Type {
	var list []api.Type
	for _, it := range l {
		if it.Kind == api.ItFunc || it.Kind == api.ItStruct {
			for _, p := range it.Params {
				list = append(list, p.Type)
			}
		}
		if it.Kind == api.ItFunc || it.Kind == api.ItConst {
			list = append(list, it.Type)
		}
		if it.Kind == api.ItEnum {
			for _, v := range it.Variants {
				list = append(list, v.Types...)
			}
		}
	}
	return list
}

// wantWords is P6.3: of a program that nothing is against each written type has words, and what stands in it too.
func wantWords(t *testing.T, l []api.Item) {
	t.Helper()
	for _, written := range writtenTypes(l) {
		for _, x := range chain(written) {
			if _, ok := types.Words(l, x); !ok {
				t.Errorf("nothing is against %.300s, but %s has no words", tell(l), tellType(x))
			}
		}
	}
}
