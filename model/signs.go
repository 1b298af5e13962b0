package model

import (
	"ferrule/api"
	"ferrule/num"
)

func (r *run) integer(f *frame) { r.give(numberOf(f.x.Num)) }

func (r *run) truth(f *frame) {
	must(f.x.Num == 0 || f.x.Num == 1)
	r.give(numberOf(f.x.Num))
}

func (r *run) unit(f *frame) { r.give(unitValue()) }

func (r *run) negative(f *frame) {
	if r.ready(f) {
		r.give(calculated("-", f.x.Type.Kind, 0, r.given(f)[0].number()))
	}
}

func (r *run) not(f *frame) {
	if !r.ready(f) {
		return
	}
	it := r.given(f)[0].number()
	if f.x.Type.Kind == api.TyBool {
		r.give(boolOf(it == 0))
		return
	}
	r.give(numberOf(num.Wrap(f.x.Type.Kind, -1-it)))
}

func (r *run) cast(f *frame) {
	must(len(f.x.Ty) == 1)
	if r.ready(f) {
		r.give(numberOf(num.Wrap(f.x.Ty[0].Kind, r.given(f)[0].number())))
	}
}

func (r *run) binary(f *frame) {
	if f.x.Text == "&&" || f.x.Text == "||" {
		r.logical(f)
		return
	}
	if !r.ready(f) {
		return
	}
	a, b := r.given(f)[0].number(), r.given(f)[1].number()
	if holds, compares := num.Holds(f.x.Text, a, b); compares {
		r.give(boolOf(holds))
		return
	}
	r.give(calculated(f.x.Text, f.x.Kids[0].Type.Kind, a, b))
}

// logical is of a sign whose first kid may decide alone.
func (r *run) logical(f *frame) {
	if f.next == 0 {
		r.kid(f, 0)
		return
	}
	last := r.last().number() != 0
	if decides := f.x.Text == "||"; f.next == 1 && last != decides {
		r.kid(f, 1)
		return
	}
	r.give(boolOf(last))
}

// calculated is what a sign makes of two numbers of a type.
func calculated(sign string, kind, a, b int) value {
	if kind == api.TyBool && (sign == "&" || sign == "|" || sign == "^") {
		kind = api.TyU8 // whose numbers 0 and 1 have the same bits
	}
	n, fault := num.Do(sign, kind, a, b)
	must(fault != num.NoSign)
	if fault != num.Fine {
		end(api.OutExit, panicked)
	}
	return numberOf(n)
}
