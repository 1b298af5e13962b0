package model

import "ferrule/api"

func (r *run) match(f *frame) {
	switch f.next {
	case 0:
		r.kid(f, 0)
	case 1:
		f.next = 2
		arm := chosen(f.x.Kids[1:], r.given(f)[0])
		r.bind(&arm.Kids[0], r.last())
		r.begin(&arm.Kids[1])
	default:
		r.give(r.last())
	}
}

// chosen tells the first arm whose pattern has a value.
func chosen(arms []api.Expr, v value) *api.Expr {
	for k := range arms {
		arm := &arms[k]
		must(arm.Kind == api.ExArm)
		mustBeFormed(arm)
		if has(&arm.Kids[0], v) {
			return arm
		}
	}
	must(false)
	return nil
}

func has(pattern *api.Expr, v value) bool {
	mustBeFormed(pattern)
	switch pattern.Kind {
	case api.PaAny:
		return true
	case api.PaInt, api.PaBool:
		return v.kind == aNumber && v.n == pattern.Num
	case api.PaVariant:
		return v.kind == aVariant && v.n == pattern.Num && len(v.parts) == len(pattern.Kids)
	}
	must(false)
	return false
}

// bind gives a value's parts to the names of a pattern that has it; those without one are let go.
func (r *run) bind(pattern *api.Expr, v value) {
	if pattern.Kind != api.PaVariant {
		r.letGo(v)
		return
	}
	for k := range v.parts {
		name := &pattern.Kids[k]
		must(name.Kind == api.PaBind)
		if name.Num >= 0 {
			r.declare(name.Num, v.parts[k])
		} else {
			r.letGo(v.parts[k])
		}
	}
}
