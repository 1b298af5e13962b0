package build

import "ferrule/api"

// structure builds each field where it lies, in the order in which they are written.
func (b *builder) structure(x *api.Expr, to target) {
	fields := b.structOf(&x.Type)
	must(len(x.Kids) == len(fields))
	for k := range x.Kids {
		init := &x.Kids[k]
		must(init.Num >= 0 && init.Num < len(fields))
		b.into(&init.Kids[0], to.on(fields[init.Num].ahead, fields[init.Num].words))
	}
}

func (b *builder) variant(x *api.Expr, to target) {
	if x.Text == "Box::new" {
		b.box(x, to)
		return
	}
	all := b.enumOf(&x.Type)
	must(x.Num >= 0 && x.Num < len(all) && len(x.Kids) == len(all[x.Num]))
	b.put(to.on(0, 1), number(x.Num))
	for k, part := range all[x.Num] {
		b.into(&x.Kids[k], to.on(part.ahead, part.words))
	}
}

// arrayOf tells the words of an array's elements, if it is one of so many.
func (b *builder) arrayOf(t *api.Type, n int) int {
	must(t.Kind == api.TyArray && t.N == n && len(t.Elem) == 1)
	return b.words(&t.Elem[0])
}

func (b *builder) array(x *api.Expr, to target) {
	size := b.arrayOf(&x.Type, len(x.Kids))
	for k := range x.Kids {
		b.into(&x.Kids[k], to.on(k*size, size))
	}
}

// repeat builds its value once, and brings it to where the elements lie.
func (b *builder) repeat(x *api.Expr, to target) {
	kid, size := &x.Kids[0], b.arrayOf(&x.Type, x.Num)
	switch {
	case size == 1:
		word := b.operand(kid)
		for k := range x.Num {
			b.put(to.on(k, 1), word)
		}
	case size == 0 || x.Num == 0:
		_, leave := b.source(kid, size, false)
		leave()
	default:
		b.into(kid, to.on(0, size))
		for k := range x.Num - 1 {
			b.copy(to.on((k+1)*size, size), to.at)
		}
	}
}

// box builds a value, and a block for it behind that: what the value needs may need blocks, or end the run.
func (b *builder) box(x *api.Expr, to target) {
	must(len(x.Kids) == 1 && x.Type.Kind == api.TyBox)
	kid, words := &x.Kids[0], b.words(pointedBy(&x.Type))
	if words > 1 && isCalm(kid) {
		b.made(to, func(dst int) { b.into(kid, b.newBlock(dst, words)) })
		return
	}
	if words == 1 {
		word := b.operand(kid)
		b.made(to, func(dst int) { b.put(b.newBlock(dst, 1), word) })
		return
	}
	from, leave := b.source(kid, words, false)
	b.made(to, func(dst int) { b.copy(b.newBlock(dst, words), from) })
	leave()
}

// newBlock brings the address of a new block into a scalar; the target is that block.
func (b *builder) newBlock(dst, words int) target {
	b.add(api.Instr{Op: api.OpAlloc, Dst: dst, N: words})
	return target{heldBy(dst), words}
}

// heldBy is the place that a scalar's word points to.
func heldBy(local int) api.Place {
	return api.Place{Local: local, Steps: []api.Step{{Kind: api.StHeld}}}
}

// isCalm tells whether a value is built of what is there, with nothing that may end the run or leave the tree: so it does not matter what comes first, it or its block.
func isCalm(x *api.Expr) bool {
	switch x.Kind {
	case api.ExInt, api.ExBool, api.ExUnit, api.ExVar:
		return true
	case api.ExField, api.ExDeref, api.ExStruct, api.ExInit, api.ExArray, api.ExRepeat:
	case api.ExVariant:
		if x.Text == "Box::new" {
			return false
		}
	default:
		return false
	}
	for k := range x.Kids {
		if !isCalm(&x.Kids[k]) {
			return false
		}
	}
	return true
}
