package model

import (
	"ferrule/api"
	"ferrule/types"
)

// variable is one that is in scope.
type variable struct {
	slot int
	held *value
}

// declare brings a variable into scope, that holds a value.
func (r *run) declare(slot int, v value) {
	held := &v
	r.variables = append(r.variables, variable{slot, held})
	r.here().slots[slot] = held
}

// undeclare lets go what the last variable holds. No tree of its call finds it any more.
func (r *run) undeclare() {
	at := len(r.variables) - 1
	last := r.variables[at]
	r.variables = r.variables[:at]
	r.letGo(*last.held)
	if slots := r.here().slots; slots[last.slot] == last.held {
		delete(slots, last.slot)
	}
}

// givePlace ends a tree that is a place: with a borrow of it, or with its value.
func (r *run) givePlace(f *frame, at *value) {
	if f.place {
		r.give(value{kind: aBorrow, to: at})
		return
	}
	must(at.kind != nothing)
	if at.kind == aBorrow || types.Copy(r.items, f.x.Type) {
		r.give(at.copied())
		return
	}
	r.give(take(at))
}

// within tells the place that a tree's first kid is, if it holds a value of a kind.
func (r *run) within(f *frame, kind int) *value {
	of := r.given(f)[0].to
	must(of.kind == kind)
	return of
}

func (r *run) variable(f *frame) {
	at, is := r.here().slots[f.x.Num]
	must(is)
	r.givePlace(f, at)
}

func (r *run) field(f *frame) {
	if f.next == 0 {
		r.kidPlace(f)
		return
	}
	of, which := r.within(f, aStruct), f.x.Num
	must(0 <= which && which < len(of.parts))
	r.givePlace(f, &of.parts[which])
}

func (r *run) element(f *frame) {
	switch f.next {
	case 0:
		r.kidPlace(f)
	case 1:
		r.kid(f, 1)
	default:
		of, which := r.within(f, anArray), r.given(f)[1].number()
		if which < 0 || which >= len(of.parts) {
			end(api.OutExit, panicked)
		}
		r.givePlace(f, &of.parts[which])
	}
}

// pointed is what a Box holds, or what a borrow is of.
func (r *run) pointed(f *frame) {
	if f.next == 0 {
		r.kidPlace(f)
		return
	}
	switch by := r.given(f)[0].to; by.kind {
	case aBox:
		r.givePlace(f, &by.box.held)
	case aBorrow:
		r.givePlace(f, by.to)
	default:
		must(false)
	}
}
