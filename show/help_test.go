package show

import (
	"fmt"
	"reflect"
	"slices"
	"testing"

	"ferrule/api"
	"ferrule/parse"
)

// ex makes a tree of a kind with a text and kids.
func ex(kind int, text string, kids ...api.Expr) api.Expr {
	return api.Expr{Kind: kind, Text: text, Kids: kids}
}

// numbered is a tree with a number.
func numbered(x api.Expr, num int) api.Expr {
	x.Num = num
	return x
}

// typed is a tree with types written in it.
func typed(x api.Expr, types ...api.Type) api.Expr {
	x.Ty = types
	return x
}

func named(name string) api.Expr { return ex(api.ExVar, name) }

func bin(sign string, a, b api.Expr) api.Expr { return ex(api.ExBin, sign, a, b) }

// block is a block of statements; valued is one with a value last.
func block(kids ...api.Expr) api.Expr { return ex(api.ExBlock, "", kids...) }

func valued(kids ...api.Expr) api.Expr { return numbered(block(kids...), 1) }

func stmt(x api.Expr) api.Expr { return ex(api.ExStmt, "", x) }

func ty(kind int, elem ...api.Type) api.Type { return api.Type{Kind: kind, Elem: elem} }

func tyNamed(name string) api.Type { return api.Type{Kind: api.TyNamed, Name: name} }

func tyArray(n int, elem ...api.Type) api.Type {
	return api.Type{Kind: api.TyArray, N: n, Elem: elem}
}

// function is an item with a body alone.
func function(body api.Expr) api.Item {
	return api.Item{Kind: api.ItFunc, Name: "f", Type: ty(api.TyUnit), Body: body}
}

// bareTree is a tree's copy without places and without what it was typed, with nil for each list without an element.
func bareTree(x api.Expr) api.Expr {
	bare := api.Expr{Kind: x.Kind, Num: x.Num, Text: x.Text, Ty: bareTypes(x.Ty)}
	for _, kid := range x.Kids {
		bare.Kids = append(bare.Kids, bareTree(kid))
	}
	return bare
}

func bareTypes(list []api.Type) []api.Type {
	var bare []api.Type
	for _, t := range list {
		bare = append(bare, bareType(t))
	}
	return bare
}

func bareType(t api.Type) api.Type {
	t.Elem = bareTypes(t.Elem)
	return t
}

func bareItem(it api.Item) api.Item {
	it.At, it.Type, it.Body = 0, bareType(it.Type), bareTree(it.Body)
	params, variants := it.Params, it.Variants
	it.Params, it.Variants = nil, nil
	for _, p := range params {
		it.Params = append(it.Params, api.Param{Name: p.Name, Mut: p.Mut, Type: bareType(p.Type)})
	}
	for _, v := range variants {
		it.Variants = append(it.Variants, api.Variant{Name: v.Name, Types: bareTypes(v.Types)})
	}
	return it
}

func bareItems(l []api.Item) []api.Item {
	var bare []api.Item
	for _, it := range l {
		bare = append(bare, bareItem(it))
	}
	return bare
}

// The checks by reflect.DeepEqual hold what is told against what was given without Alike, so that they guard that too.

func sameTrees(a, b api.Expr) bool { return reflect.DeepEqual(bareTree(a), bareTree(b)) }

func samePrograms(a, b []api.Item) bool { return reflect.DeepEqual(bareItems(a), bareItems(b)) }

// brief tells the beginning of what is given.
func brief(v any) string { return fmt.Sprintf("%.300s", fmt.Sprint(v)) }

// wantTold asks that a tree is told as a text that parses to it, and tells that text.
func wantTold(t *testing.T, x api.Expr) string {
	t.Helper()
	text, e := Tree(x)
	again, at, f := parse.Tree(text)
	if e != api.OK || f != api.OK || !sameTrees(x, again) {
		t.Errorf("Tree(%s) = %.200q, %d, which parses to %s, %d, %d", brief(bareTree(x)), text, int(e), brief(bareTree(again)), at, int(f))
	}
	return text
}

func wantItemsTold(t *testing.T, l []api.Item) string {
	t.Helper()
	text, e := Items(l)
	again, at, f := parse.Parse(text)
	if e != api.OK || f != api.OK || !samePrograms(l, again) {
		t.Errorf("Items(%s) = %.200q, %d, which parses to %s, %d, %d", brief(bareItems(l)), text, int(e), brief(bareItems(again)), at, int(f))
	}
	return text
}

func wantNoText(t *testing.T, x api.Expr) {
	t.Helper()
	if text, e := Tree(x); text != "" || e != api.ErrForm {
		t.Errorf("Tree(%s) = %.200q, %d; want nothing, %d", brief(bareTree(x)), text, int(e), int(api.ErrForm))
	}
}

func wantNoItems(t *testing.T, l ...api.Item) {
	t.Helper()
	if text, e := Items(l); text != "" || e != api.ErrForm {
		t.Errorf("Items(%s) = %.200q, %d; want nothing, %d", brief(bareItems(l)), text, int(e), int(api.ErrForm))
	}
}

// parsed is the tree of a text that is one.
func parsed(t *testing.T, text string) api.Expr {
	t.Helper()
	x, at, e := parse.Tree(text)
	if e != api.OK {
		t.Fatalf("parse.Tree(%.200q) = %d, %d", text, at, int(e))
	}
	return x
}

func parsedItems(t *testing.T, text string) []api.Item {
	t.Helper()
	l, at, e := parse.Parse(text)
	if e != api.OK {
		t.Fatalf("parse.Parse(%.200q) = %d, %d", text, at, int(e))
	}
	return l
}

// copyTree is a tree that shares no memory with the one that it is a copy of.
func copyTree(x api.Expr) api.Expr {
	x.Kids, x.Ty = slices.Clone(x.Kids), slices.Clone(x.Ty)
	for i := range x.Kids {
		x.Kids[i] = copyTree(x.Kids[i])
	}
	for i := range x.Ty {
		x.Ty[i] = copyType(x.Ty[i])
	}
	return x
}

func copyType(t api.Type) api.Type {
	t.Elem = slices.Clone(t.Elem)
	for i := range t.Elem {
		t.Elem[i] = copyType(t.Elem[i])
	}
	return t
}
