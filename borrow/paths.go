package borrow

import (
	"slices"

	"ferrule/api"
)

// step is one from a place to a part of it, or to what it points to.
type step struct {
	kind  int
	which int  // the field, or the number of an index
	known bool // which one it is: of a deref, and of an index that is no number, it is not
}

// path is a place: its root, and its steps from there outwards.
type path struct {
	root  *api.Expr
	steps []step
}

// pathOf tells a place's path; false: the tree is none.
func pathOf(x *api.Expr) (path, bool) {
	trees := outwards(x)
	p := path{root: trees[0]}
	for _, at := range trees[1:] {
		p.steps = append(p.steps, stepOf(at))
	}
	return p, p.root.Kind == api.ExVar
}

// outwards tells the trees of a place, from its root on.
func outwards(x *api.Expr) []*api.Expr {
	trees := []*api.Expr{x}
	for isStep(x.Kind) && len(x.Kids) > 0 {
		x = &x.Kids[0]
		trees = append(trees, x)
	}
	slices.Reverse(trees)
	return trees
}

func rootOf(x *api.Expr) *api.Expr { return outwards(x)[0] }

func isStep(kind int) bool {
	return kind == api.ExField || kind == api.ExIndex || kind == api.ExDeref
}

func stepOf(x *api.Expr) step {
	switch {
	case x.Kind == api.ExField:
		return step{x.Kind, x.Num, true}
	case x.Kind == api.ExIndex && len(x.Kids) > 1 && x.Kids[1].Kind == api.ExInt:
		return step{x.Kind, x.Kids[1].Num, true}
	}
	return step{kind: x.Kind}
}

// parts tells whether two steps from one place lead to different parts of it for sure.
func (s step) parts(t step) bool {
	return s.kind == t.kind && s.known && t.known && s != t
}

func (p path) overlaps(q path) bool {
	if p.root.Num != q.root.Num {
		return false
	}
	for k := range min(len(p.steps), len(q.steps)) {
		if p.steps[k].parts(q.steps[k]) {
			return false
		}
	}
	return true
}
