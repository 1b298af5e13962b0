package shapes

import "ferrule/api"

// mostDerefs is how many ExDerefs a typed program can have: more do not fit into the bytes that a program may be given.
// Where places are gone through typeck tells some that stand in no text, so that MostTrees says nothing of them.
const mostDerefs = 1 << 24

// Typed tells whether the trees of all functions are formed as typeck tells them: of a kind that may stand there, with a type, and as many kids as that kind has.
func Typed(l []api.Item) bool {
	g := &glance{trees: MostTrees, derefs: mostDerefs}
	for k := range l {
		if l[k].Kind == api.ItFunc && !g.fits(&l[k].Body, isBlock) {
			return false
		}
	}
	return true
}

// glance is how many trees may still be seen.
type glance struct{ trees, derefs int }

// fits tells whether a tree is of a kind that is asked for, and all in it is formed as it must be.
func (g *glance) fits(x *api.Expr, asked func(kind int) bool) bool {
	s, is := Of(x.Kind)
	if !is || !asked(x.Kind) || !s.Takes(len(x.Kids)) || !isType(x.Type.Kind) || !g.hasRoom(x.Kind) {
		return false
	}
	if x.Kind == api.ExBlock && x.Num == 1 && len(x.Kids) == 0 {
		return false
	}
	for k := range x.Kids {
		if !g.fits(&x.Kids[k], askedOf(x, k)) {
			return false
		}
	}
	return true
}

func (g *glance) hasRoom(kind int) bool {
	if kind == api.ExDeref {
		g.derefs--
	} else {
		g.trees--
	}
	return g.trees >= 0 && g.derefs >= 0
}

// askedOf tells what is asked of the kind of a tree's k-th kid.
func askedOf(x *api.Expr, k int) func(kind int) bool {
	switch x.Kind {
	case api.ExDeref, api.ExField, api.ExBorrow:
		return IsPlace
	case api.ExIndex, api.ExAssign:
		if k == 0 {
			return IsPlace
		}
	case api.ExCall:
		return func(kind int) bool { return isValue(kind) || kind == api.ExBorrow }
	case api.ExStruct:
		return just(api.ExInit)
	case api.ExBlock:
		if x.Num != 1 || k < len(x.Kids)-1 {
			return isStatement
		}
	case api.ExIf:
		return askedOfIf(k)
	case api.ExMatch:
		if k > 0 {
			return just(api.ExArm)
		}
	case api.ExArm:
		if k == 0 {
			return isPattern
		}
	case api.PaVariant:
		return just(api.PaBind)
	case api.ExWhile:
		if k > 0 {
			return isBlock
		}
	case api.ExLoop:
		return isBlock
	}
	return isValue
}

func askedOfIf(k int) func(kind int) bool {
	switch k {
	case 0:
		return isValue
	case 1:
		return isBlock
	}
	return func(kind int) bool { return isBlock(kind) || kind == api.ExIf }
}

func just(asked int) func(kind int) bool {
	return func(kind int) bool { return kind == asked }
}

func isType(kind int) bool { return api.TyUnit <= kind && kind <= api.TyNever }

// IsPlace tells whether typed trees of a kind are places.
func IsPlace(kind int) bool {
	switch kind {
	case api.ExVar, api.ExField, api.ExIndex, api.ExDeref:
		return true
	}
	return false
}

func isBlock(kind int) bool { return kind == api.ExBlock }

func isPattern(kind int) bool { return api.PaInt <= kind && kind <= api.PaVariant }

func isStatement(kind int) bool { return api.ExWhile <= kind && kind <= api.ExStmt }

// isValue tells whether trees of a kind have a value, wherever they stand.
func isValue(kind int) bool {
	return api.ExInt <= kind && kind <= api.ExMatch && kind != api.ExBorrow && kind != api.ExInit
}
