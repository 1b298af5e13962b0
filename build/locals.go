package build

import (
	"slices"

	"ferrule/api"
)

// target is where a value's words go. Nothing that is built for that value sees it before.
type target struct {
	at    api.Place
	words int
}

// on is a part of a target.
func (to target) on(ahead, words int) target {
	return target{onward(to.at, ahead), words}
}

// onward is a place so many words on.
func onward(p api.Place, words int) api.Place {
	return api.Place{Local: p.Local, Steps: furtherOn(slices.Clone(p.Steps), words)}
}

// furtherOn adds words to steps, in their memory.
func furtherOn(steps []api.Step, words int) []api.Step {
	last := len(steps) - 1
	switch {
	case words == 0:
		return steps
	case last >= 0 && steps[last].Kind == api.StAdd:
		steps[last].N += words
		return steps
	}
	return append(steps, api.Step{Kind: api.StAdd, N: words})
}

func (b *builder) newLocal(words int) int {
	b.f.Locals = append(b.f.Locals, words)
	b.held = append(b.held, 0)
	return len(b.f.Locals) - 1
}

// fresh is a target that nothing else lies in. One of several words is to be given back by release.
func (b *builder) fresh(words int) target {
	if words == 0 {
		return target{}
	}
	return target{api.Place{Local: b.room(words)}, words}
}

// room tells a local of so many words that nothing lies in. Locals of several words lie in a frame, and frames are small: so they are used again, and grow for that, if none is great enough.
func (b *builder) room(words int) int {
	if words < 2 {
		return b.newLocal(words)
	}
	best := -1
	for k, local := range b.idle {
		if best < 0 || b.better(local, b.idle[best], words) {
			best = k
		}
	}
	if best < 0 {
		return b.newLocal(words)
	}
	local := b.idle[best]
	b.idle = slices.Delete(b.idle, best, best+1)
	b.f.Locals[local] = max(b.f.Locals[local], words)
	return local
}

// better tells whether one local is to be taken for so many words, not another one: the least that has so many, or else the greatest.
func (b *builder) better(one, other, words int) bool {
	n, m := b.f.Locals[one], b.f.Locals[other]
	if m >= words {
		return n >= words && n < m
	}
	return n > m
}

// release lets a local be used again. (Params have just the words of their types, and are never released.)
func (b *builder) release(local int) {
	if b.f.Locals[local] > 1 {
		b.idle = append(b.idle, local)
	}
}

// reserve takes a local back that was released, and that nothing lies in again.
func (b *builder) reserve(local int) {
	if k := slices.Index(b.idle, local); k >= 0 {
		b.idle = slices.Delete(b.idle, k, k+1)
	}
}

// isScalar tells whether a place is a local of one word itself.
func (b *builder) isScalar(p api.Place) bool {
	return len(p.Steps) == 0 && b.f.Locals[p.Local] == 1
}

// put brings a word into a target.
func (b *builder) put(to target, word api.Operand) {
	must(to.words == 1)
	if b.isScalar(to.at) {
		b.add(api.Instr{Op: api.OpSet, Dst: to.at.Local, A: word})
	} else {
		b.add(api.Instr{Op: api.OpStore, P: to.at, A: word})
	}
}

// made puts a word into a target that something else brings into a scalar.
func (b *builder) made(to target, make func(dst int)) {
	must(to.words == 1)
	if b.isScalar(to.at) {
		make(to.at.Local)
		return
	}
	dst := b.newLocal(1)
	make(dst)
	b.put(to, scalar(dst))
}

// load is the word at a place.
func (b *builder) load(p api.Place) api.Operand {
	if b.isScalar(p) {
		return scalar(p.Local)
	}
	dst := b.newLocal(1)
	b.add(api.Instr{Op: api.OpLoad, Dst: dst, P: p})
	return scalar(dst)
}

// loads are so many words from a place on.
func (b *builder) loads(p api.Place, words int) []api.Operand {
	var out []api.Operand
	for k := range words {
		out = append(out, b.load(onward(p, k)))
	}
	return out
}

// copy brings a target's words from a place.
func (b *builder) copy(to target, from api.Place) {
	switch {
	case to.words == 0:
	case to.words > 1:
		b.add(api.Instr{Op: api.OpCopy, P: to.at, Q: from, N: to.words})
	case b.isScalar(to.at) && !b.isScalar(from):
		b.add(api.Instr{Op: api.OpLoad, Dst: to.at.Local, P: from})
	default:
		b.put(to, b.load(from))
	}
}

// inLocal tells a scalar that has an operand's word.
func (b *builder) inLocal(o api.Operand) int {
	if !o.Const {
		return o.N
	}
	to := b.fresh(1)
	b.put(to, o)
	return to.at.Local
}

// declare brings a variable into scope, whose value lies in its local.
func (b *builder) declare(slot, local int, t *api.Type) {
	must(slot >= 0)
	v := variable{slot, local, b.words(t), t, b.owns(t), none}
	if v.owns && b.watched {
		v.holds = b.newLocal(1)
	}
	b.give(v)
	b.slots[slot] = len(b.variables)
	b.variables = append(b.variables, v)
	b.held[local] = 1
}

// give notes that a variable holds a value, if that is one to be let go.
func (b *builder) give(v variable) { b.note(v, api.OpGive, 1) }

// take notes that a variable holds none any more.
func (b *builder) take(v variable) { b.note(v, api.OpTake, 0) }

func (b *builder) note(v variable, op, holds int) {
	if v.owns {
		b.add(api.Instr{Op: op, Dst: v.local})
	}
	if v.holds != none {
		b.put(target{api.Place{Local: v.holds}, 1}, number(holds))
	}
}

// letHeldGo lets go what a variable holds, if it holds a value.
func (b *builder) letHeldGo(v variable) {
	if v.owns {
		b.spareHeld(v)
		b.add(api.Instr{Op: api.OpClear, Dst: v.local, Type: *v.typ})
	}
}

// clear lets go what all variables hold but the first ones, the last one first.
func (b *builder) clear(first int) {
	for k := len(b.variables) - 1; k >= first; k-- {
		b.letHeldGo(b.variables[k])
	}
}

// undeclare ends the scopes of all variables but the first ones.
func (b *builder) undeclare(first int) {
	b.clear(first)
	for k := len(b.variables) - 1; k >= first; k-- {
		v := b.variables[k]
		if b.slots[v.slot] == k {
			delete(b.slots, v.slot)
		}
		b.held[v.local] = 0
		b.release(v.local)
	}
	b.variables = b.variables[:first]
}
