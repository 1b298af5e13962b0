package typeck

import (
	"ferrule/api"
	"ferrule/num"
)

// A type that is wanted is an api.Type; nothing is wanted, if its Kind is 0.

func nothing() api.Type { return api.Type{} }

func plain(kind int) api.Type { return api.Type{Kind: kind} }

func holding(kind int, elem api.Type) api.Type { return api.Type{Kind: kind, Elem: []api.Type{elem}} }

// known is a type as one that is wanted of another tree: of what does not go on nothing follows.
func known(t api.Type) api.Type {
	if isNever(t) {
		return nothing()
	}
	return t
}

// kept is a type as that of a variable, or of what is within an array or a Box: there stands nothing that does not go on.
func kept(t api.Type) api.Type {
	if isNever(t) {
		return plain(api.TyUnit)
	}
	return t
}

// heldBy is what a wanted type of a kind wants of what it holds.
func heldBy(kind int, want api.Type) api.Type {
	if want.Kind != kind {
		return nothing()
	}
	return want.Elem[0]
}

func isNever(t api.Type) bool { return t.Kind == api.TyNever }

func isBorrow(t api.Type) bool { return t.Kind == api.TyRef || t.Kind == api.TyMut }

func isPointer(t api.Type) bool { return t.Kind == api.TyBox || isBorrow(t) }

func isInt(t api.Type) bool { return num.Int(t.Kind) }

func isSigned(t api.Type) bool {
	_, signed := num.Bits(t.Kind)
	return signed
}

// isScalar tells whether a type is an integer one, or, if bools will do, too, bool.
func isScalar(t api.Type, bools bool) bool { return isInt(t) || bools && t.Kind == api.TyBool }

func inRange(t api.Type, v int) bool {
	least, most := num.Range(t.Kind)
	return least <= v && v <= most
}

// intOf is the type that a word behind a number's digits names.
func intOf(word string) api.Type {
	switch word {
	case "i8":
		return plain(api.TyI8)
	case "i16":
		return plain(api.TyI16)
	case "i32":
		return plain(api.TyI32)
	case "u8":
		return plain(api.TyU8)
	case "u16":
		return plain(api.TyU16)
	case "u32":
		return plain(api.TyU32)
	}
	formed(false)
	return nothing()
}
