package show

import (
	"slices"
	"strconv"
	"strings"

	"ferrule/api"
)

// typeWords holds the texts of types that are the same whatever they hold.
var typeWords = [...]string{
	api.TyUnit: "()",
	api.TyBool: "bool",
	api.TyI8:   "i8",
	api.TyI16:  "i16",
	api.TyI32:  "i32",
	api.TyU8:   "u8",
	api.TyU16:  "u16",
	api.TyU32:  "u32",
}

// Type tells a type as a text. It goes from part to part inwards, and writes each once, however deep they stand.
func Type(t api.Type) string {
	var text strings.Builder
	var closings []string
	for holds(t) {
		opening, closing := around(t)
		text.WriteString(opening)
		closings = append(closings, closing)
		t = t.Elem[0]
	}
	text.WriteString(innermost(t))
	for _, closing := range slices.Backward(closings) {
		text.WriteString(closing)
	}
	return text.String()
}

// holds tells whether a type is one of another type, and has it.
func holds(t api.Type) bool {
	return api.TyArray <= t.Kind && t.Kind <= api.TyMut && len(t.Elem) > 0
}

// around tells what stands ahead of the type that a type is of, and behind it.
func around(t api.Type) (opening, closing string) {
	switch t.Kind {
	case api.TyArray:
		return "[", "; " + strconv.Itoa(t.N) + "]"
	case api.TyBox:
		return "Box<", ">"
	case api.TyMut:
		return "&mut ", ""
	}
	return "&", ""
}

func innermost(t api.Type) string {
	if api.TyUnit <= t.Kind && t.Kind < len(typeWords) {
		return typeWords[t.Kind]
	}
	if t.Kind == api.TyNamed {
		return t.Name
	}
	return "?"
}

// typed tells how a type is written in a program: unlike Type with blanks just where they are needed.
func (t *teller) typed(of api.Type) forms {
	if !t.goesOn() {
		return nil
	}
	if !holds(of) {
		return word(innermost(of)).deeper()
	}
	elem := t.typed(of.Elem[0]).deeper()
	switch of.Kind {
	case api.TyArray:
		return join(word("["), elem, word(";"), word(strconv.Itoa(of.N)), word("]"))
	case api.TyBox:
		return boxed(elem)
	case api.TyMut:
		return join(word("&"), word("mut"), elem)
	}
	return join(word("&"), elem)
}

// boxed tells the Box of a type. Every second > that closes one ends a sign >>, and takes no byte of what comes behind it.
func boxed(elem forms) forms {
	second := slices.ContainsFunc(elem, func(f form) bool { return f.last == angle })
	return join(word("Box"), word("<"), elem, word(">")).changed(func(f *form) {
		if !second {
			f.last = angle
		}
	})
}

// firstType tells a list's first type, or one that has no text.
func firstType(list []api.Type) api.Type {
	if len(list) == 0 {
		return api.Type{}
	}
	return list[0]
}
