package model

import (
	"slices"

	"ferrule/api"
	"ferrule/heap"
	"ferrule/types"
)

// structure has its kids' values by their fields, in whatever order they are written.
func (r *run) structure(f *frame) {
	if f.next < len(f.x.Kids) {
		r.initial(f)
		return
	}
	parts := make([]value, len(f.x.Kids))
	for k, v := range r.given(f) {
		at := f.x.Kids[k].Num
		must(0 <= at && at < len(parts) && parts[at].kind == nothing)
		parts[at] = v
	}
	r.give(compound(aStruct, 0, parts))
}

// initial begins what the next field is given.
func (r *run) initial(f *frame) {
	init := &f.x.Kids[f.next]
	f.next++
	r.pass(init)
	must(init.Kind == api.ExInit)
	r.begin(&init.Kids[0])
}

func (r *run) variant(f *frame) {
	if f.x.Text == "Box::new" {
		r.box(f)
		return
	}
	if r.ready(f) {
		r.give(compound(aVariant, f.x.Num, slices.Clone(r.given(f))))
	}
}

func (r *run) box(f *frame) {
	must(len(f.x.Kids) == 1 && f.x.Type.Kind == api.TyBox && len(f.x.Type.Elem) > 0)
	if !r.ready(f) {
		return
	}
	words, sized := types.Words(r.items, f.x.Type.Elem[0])
	must(sized)
	class, _, blocks, _ := heap.Class(words)
	if r.live[class] >= blocks {
		end(api.OutMemory, 0)
	}
	r.live[class]++
	r.give(value{kind: aBox, box: &boxed{class: class, held: r.last()}})
}

func (r *run) array(f *frame) {
	if r.ready(f) {
		r.give(compound(anArray, 0, slices.Clone(r.given(f))))
	}
}

func (r *run) repeat(f *frame) {
	must(0 <= f.x.Num && f.x.Num < mostParts)
	if !r.ready(f) {
		return
	}
	one := r.last()
	parts := make([]value, f.x.Num)
	for k := range parts {
		parts[k] = one.copied()
	}
	r.give(compound(anArray, 0, parts))
}
