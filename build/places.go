package build

import (
	"slices"

	"ferrule/api"
	"ferrule/num"
	"ferrule/shapes"
)

// place builds a place, from its root outwards; stirred: ahead of its use something is built that may change variables.
func (b *builder) place(x *api.Expr, stirred bool) api.Place {
	way := wayTo(x)
	p := api.Place{Local: b.root(way[0]).local}
	keep := b.keeps(way, stirred)
	for k, at := range way[1:] {
		p.Steps = b.step(p.Steps, at, keep[k+1])
	}
	return p
}

// wayTo tells the trees that a place is made of, its root first.
func wayTo(x *api.Expr) []*api.Expr {
	way := []*api.Expr{x}
	for x.Kind != api.ExVar {
		must(shapes.IsPlace(x.Kind))
		x = &x.Kids[0]
		way = append(way, x)
	}
	slices.Reverse(way)
	return way
}

// keeps tells of each tree of a way, whether variables may change behind it, ahead of the place's use.
func (b *builder) keeps(way []*api.Expr, stirred bool) []bool {
	keep := make([]bool, len(way))
	for k := len(way) - 1; k > 0; k-- {
		keep[k] = stirred
		if way[k].Kind == api.ExIndex {
			stirred = stirred || b.stirs(&way[k].Kids[1])
		}
	}
	return keep
}

// root is the variable that a tree names.
func (b *builder) root(x *api.Expr) variable {
	k, is := b.slots[x.Num]
	must(is && b.variables[k].words == b.words(&x.Type))
	return b.variables[k]
}

// step adds what leads from the place of a tree's first kid to its own.
func (b *builder) step(steps []api.Step, x *api.Expr, keep bool) []api.Step {
	of := &x.Kids[0].Type
	switch x.Kind {
	case api.ExField:
		fields := b.structOf(of)
		must(x.Num >= 0 && x.Num < len(fields) && fields[x.Num].words == b.words(&x.Type))
		return furtherOn(steps, fields[x.Num].ahead)
	case api.ExDeref:
		must(b.words(pointedBy(of)) == b.words(&x.Type))
		return append(steps, api.Step{Kind: api.StHeld})
	}
	must(x.Kind == api.ExIndex && of.Kind == api.TyArray && b.words(of) == of.N*b.words(&x.Type))
	return b.element(steps, x, keep)
}

// element adds what leads to an array's element, behind the check of its index: below 0 is far above N, if it is taken from 0 on.
func (b *builder) element(steps []api.Step, x *api.Expr, keep bool) (out []api.Step) {
	index, size := &x.Kids[1], b.words(&x.Type)
	must(num.Int(index.Type.Kind) || index.Type.Kind == api.TyNever)
	at := b.kept(b.operand(index), keep)
	below := b.bin("sltu", at, number(x.Kids[0].Type.N))
	b.onlyIf(below, func() {
		switch {
		case !at.Const && size > 0:
			out = append(steps, api.Step{Kind: api.StIndex, N: at.N, Size: size})
		case below == number(1):
			out = furtherOn(steps, at.N*size)
		default:
			out = steps // of no words, or come to by nothing
		}
	})
	return out
}

// taken notes that a value is moved away, where a variable's is that is not copied.
func (b *builder) taken(x *api.Expr) {
	if x.Kind == api.ExVar {
		b.take(b.root(x))
	}
}

// heldAt is the word of a place.
func (b *builder) heldAt(x *api.Expr) api.Operand {
	p := b.place(x, false)
	b.taken(x)
	return b.load(p)
}

// copied builds the value of a place.
func (b *builder) copied(x *api.Expr, to target) {
	must(b.words(&x.Type) == to.words)
	p := b.place(x, false)
	b.taken(x)
	b.copy(to, p)
}

// source builds a value, and tells where its words stand till it is left: in its own place, if nothing stirs that ahead of its use, or in a local that it is brought to.
func (b *builder) source(x *api.Expr, words int, stirred bool) (from api.Place, leave func()) {
	if shapes.IsPlace(x.Kind) && !stirred {
		must(b.words(&x.Type) == words)
		p := b.place(x, false)
		b.taken(x)
		return p, func() {}
	}
	to := b.fresh(words)
	b.into(x, to)
	return to.at, func() {
		if words > 0 {
			b.release(to.at.Local)
		}
	}
}

// address is where a place is.
func (b *builder) address(p api.Place) api.Operand {
	if last := len(p.Steps) - 1; last >= 0 && p.Steps[last].Kind == api.StHeld {
		return b.load(api.Place{Local: p.Local, Steps: p.Steps[:last]})
	}
	dst := b.newLocal(1)
	b.add(api.Instr{Op: api.OpAddr, Dst: dst, P: p})
	return scalar(dst)
}
