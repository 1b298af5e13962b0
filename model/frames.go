package model

import (
	"ferrule/api"
	"ferrule/shapes"
)

// rule is what a kind of tree does each time that it goes on: as it is begun, and behind each of its kids that it had run.
type rule func(r *run, f *frame)

// frame is a tree that is under way. Frames stand in a list of the run's own, as trees within trees within calls can be more than Go's calls have room for.
type frame struct {
	x         *api.Expr
	rule      rule
	place     bool // asked is its place, not its value
	next      int  // how far its rule has come: 0 as it is begun
	values    int  // how many there were ahead of it
	variables int  // likewise
}

// rules tells what each kind of tree does. (An ExBorrow is run as an argument alone, an ExInit in its struct.)
func rules() map[int]rule {
	return map[int]rule{
		api.ExInt:     (*run).integer,
		api.ExBool:    (*run).truth,
		api.ExUnit:    (*run).unit,
		api.ExVar:     (*run).variable,
		api.ExNeg:     (*run).negative,
		api.ExNot:     (*run).not,
		api.ExDeref:   (*run).pointed,
		api.ExBin:     (*run).binary,
		api.ExCast:    (*run).cast,
		api.ExCall:    (*run).anyCall,
		api.ExField:   (*run).field,
		api.ExIndex:   (*run).element,
		api.ExStruct:  (*run).structure,
		api.ExVariant: (*run).variant,
		api.ExArray:   (*run).array,
		api.ExRepeat:  (*run).repeat,
		api.ExBlock:   (*run).block,
		api.ExIf:      (*run).choice,
		api.ExMatch:   (*run).match,
		api.ExWhile:   (*run).while,
		api.ExLoop:    (*run).loop,
		api.ExBreak:   (*run).leave,
		api.ExNext:    (*run).nextTurn,
		api.ExReturn:  (*run).giveBack,
		api.ExLet:     (*run).let,
		api.ExAssign:  (*run).assign,
		api.ExStmt:    (*run).statement,
	}
}

// goOn lets the innermost tree go on, until there is none.
func (r *run) goOn() {
	for len(r.trees) > 0 {
		f := &r.trees[len(r.trees)-1]
		f.rule(r, f)
	}
}

// begin begins a tree of which the value is asked. The frames may be in new memory behind it: a rule does nothing more with its own.
func (r *run) begin(x *api.Expr) { r.beginAs(x, false) }

// beginPlace begins a tree of which the place is asked: it gives a borrow of that.
func (r *run) beginPlace(x *api.Expr) { r.beginAs(x, true) }

func (r *run) beginAs(x *api.Expr, place bool) {
	r.pass(x)
	does, is := r.rules[x.Kind]
	must(is && (!place || shapes.IsPlace(x.Kind)))
	r.trees = append(r.trees, frame{x: x, rule: does, place: place, values: len(r.values), variables: len(r.variables)})
}

// pass is the step of a tree.
func (r *run) pass(x *api.Expr) {
	r.step()
	mustBeFormed(x)
}

// mustBeFormed asks whether a tree has as many kids as its kind has.
func mustBeFormed(x *api.Expr) {
	s, is := shapes.Of(x.Kind)
	must(is && s.Takes(len(x.Kids)))
}

// kid begins a tree's k-th kid, and notes that it did.
func (r *run) kid(f *frame, k int) {
	f.next = k + 1
	r.begin(&f.x.Kids[k])
}

// kidPlace is kid of the first one, as a place.
func (r *run) kidPlace(f *frame) {
	f.next = 1
	r.beginPlace(&f.x.Kids[0])
}

// ready tells whether all kids of a tree were run; if not, it begins the next one.
func (r *run) ready(f *frame) bool {
	if f.next == len(f.x.Kids) {
		return true
	}
	r.kid(f, f.next)
	return false
}

// given tells the values that a tree's kids gave, in the order in which they were run.
func (r *run) given(f *frame) []value { return r.values[f.values:] }

// last is the value that was given last, which is taken away.
func (r *run) last() value {
	at := len(r.values) - 1
	v := r.values[at]
	r.values = r.values[:at]
	return v
}

// give ends the innermost tree, with its value: what is left in its variables is let go.
func (r *run) give(v value) {
	r.cut(len(r.trees) - 1)
	r.values = append(r.values, v)
}

// cut leaves all trees but the first n, and the scopes of their variables. Values that were made for them are just gone.
func (r *run) cut(n int) {
	outermost := r.trees[n]
	r.trees = r.trees[:n]
	r.values = r.values[:outermost.values]
	for len(r.variables) > outermost.variables {
		r.undeclare()
	}
}
