package model

import "ferrule/api"

// block runs its statements, and its value: that of the last kid, if it has one.
func (r *run) block(f *frame) {
	must(f.x.Num != 1 || len(f.x.Kids) > 0)
	switch {
	case f.next < len(f.x.Kids):
		r.forget(f)
		r.kid(f, f.next)
	case f.x.Num == 1:
		r.give(r.last())
	default:
		r.give(unitValue())
	}
}

// forget takes away what a tree's kids gave, as nobody needs it.
func (r *run) forget(f *frame) { r.values = r.values[:f.values] }

func (r *run) choice(f *frame) {
	switch {
	case f.next == 0:
		r.kid(f, 0)
	case f.next > 1:
		r.give(r.last())
	case r.last().number() != 0:
		r.kid(f, 1)
	case len(f.x.Kids) > 2:
		r.kid(f, 2)
	default:
		r.give(unitValue())
	}
}

func (r *run) let(f *frame) {
	if !r.ready(f) {
		return
	}
	slot, v := f.x.Num/2, r.last()
	// The variable is the block's, so it comes into scope behind the let.
	r.give(unitValue())
	r.declare(slot, v)
}

func (r *run) assign(f *frame) {
	switch f.next {
	case 0:
		f.next = 1
		r.begin(&f.x.Kids[1])
	case 1:
		f.next = 2
		r.beginPlace(&f.x.Kids[0])
	default:
		v, to := r.given(f)[0], r.given(f)[1].to
		r.letGo(*to)
		put(to, v)
		r.give(unitValue())
	}
}

func (r *run) statement(f *frame) {
	if r.ready(f) {
		r.letGo(r.given(f)[0])
		r.give(unitValue())
	}
}

func (r *run) while(f *frame) {
	switch {
	case f.next != 1:
		r.forget(f)
		r.kid(f, 0)
	case r.last().number() != 0:
		r.kid(f, 1)
	default:
		r.give(unitValue())
	}
}

func (r *run) loop(f *frame) {
	r.forget(f)
	r.kid(f, 0)
}

// innermost tells which tree is the innermost loop of the function that is run.
func (r *run) innermost() int {
	for at := len(r.trees) - 1; at >= r.here().trees; at-- {
		if kind := r.trees[at].x.Kind; kind == api.ExWhile || kind == api.ExLoop {
			return at
		}
	}
	must(false)
	return 0
}

func (r *run) leave(f *frame) {
	r.cut(r.innermost() + 1)
	r.give(unitValue())
}

func (r *run) nextTurn(f *frame) {
	at := r.innermost()
	r.cut(at + 1)
	r.trees[at].next = 0
}

func (r *run) giveBack(f *frame) {
	if !r.ready(f) {
		return
	}
	v := unitValue()
	if len(f.x.Kids) > 0 {
		v = r.last()
	}
	r.cut(r.here().trees)
	r.values = append(r.values, v)
}
