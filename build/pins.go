package build

import (
	"slices"

	"ferrule/api"
)

// pin is an argument that waits for its call: a borrow of a place in a Box. An index of an argument behind it may let that Box go, and yet what it held is there still for the call: so that is brought into a local, just ahead.
type pin struct {
	at    int // the scalar that has the place's address
	block int // the scalar that has the address of the Box's block
	words int // of what the Box holds
	stead int // the local that this is brought into; none, as long as nothing brings it there
}

const (
	nowhere    = -1   // an address that no block has
	mostBoxes  = 4    // in how many Boxes of a value that is let go others are sought: lists of them have no end
	mostSought = 4096 // how many Boxes are sought for pins in a program: of more the code would be too big for any machine
)

// disturbs tells whether an argument is a borrow with an index that may let go what others borrow. (Values that do are refused by borrow.)
func (b *builder) disturbs(x *api.Expr) bool {
	return x.Kind == api.ExBorrow && b.stirs(&x.Kids[0])
}

// pin notes the last Box on the way to a place that is borrowed, if there is one. (A borrow on that way is its root.)
func (b *builder) pin(x *api.Expr, p api.Place, at int) {
	for x.Kind == api.ExField || x.Kind == api.ExIndex {
		x = &x.Kids[0]
	}
	words := b.words(&x.Type)
	if x.Kind != api.ExDeref || x.Kids[0].Type.Kind != api.TyBox || words == 0 {
		return
	}
	last := len(p.Steps) - 1
	for p.Steps[last].Kind != api.StHeld {
		last--
	}
	block := b.fresh(1)
	b.copy(block, api.Place{Local: p.Local, Steps: p.Steps[:last]})
	b.pins = append(b.pins, pin{at, block.at.Local, words, none})
}

// spareHeld brings to safety what is borrowed of the Boxes in a variable's value that is going to be let go, if it holds one.
func (b *builder) spareHeld(v variable) {
	if len(b.pins) == 0 || !v.owns {
		return
	}
	b.where(scalar(v.holds), func() { b.spareAt(v.typ, api.Place{Local: v.local}) })
}

// spareAt is spareHeld of a value that stands somewhere.
func (b *builder) spareAt(t *api.Type, at api.Place) {
	b.spare(t, value{func(ahead int) api.Operand { return b.load(onward(at, ahead)) }, 0, 0})
}

// spareAll is spareAt of what is passed to a function that can't hand it on: it lets that go.
func (b *builder) spareAll(f *api.Item, args ...api.Operand) {
	if b.owns(&f.Type) || slices.ContainsFunc(f.Params, b.takesOwned) {
		return
	}
	ahead := 0
	for k := range f.Params {
		t := &f.Params[k].Type
		b.spare(t, value{func(ahead int) api.Operand { return args[ahead] }, ahead, 0})
		ahead += b.words(t)
	}
}

// takesOwned tells whether a value with Boxes may be brought to what a param borrows.
func (b *builder) takesOwned(p api.Param) bool {
	return p.Type.Kind == api.TyMut && b.owns(pointedBy(&p.Type))
}

// value is one whose words are told, from so many on; it stands in so many Boxes.
type value struct {
	word  func(ahead int) api.Operand
	ahead int
	boxes int
}

// on is a part of a value.
func (v value) on(ahead int) value { return value{v.word, v.ahead + ahead, v.boxes} }

// first is its first word.
func (v value) first() api.Operand { return v.word(v.ahead) }

// spare is spareAt of a value whose words are told.
func (b *builder) spare(t *api.Type, v value) {
	if len(b.pins) == 0 || b.sought >= mostSought || !b.owns(t) {
		return
	}
	switch t.Kind {
	case api.TyBox:
		box := b.inLocal(v.first())
		b.spareBox(scalar(box))
		if v.boxes < mostBoxes {
			held := func(ahead int) api.Operand { return b.load(onward(heldBy(box), ahead)) }
			b.spare(pointedBy(t), value{held, 0, v.boxes + 1})
		}
	case api.TyArray:
		size := b.words(&t.Elem[0])
		for k := range t.N {
			b.spare(&t.Elem[0], v.on(k*size))
		}
	case api.TyNamed:
		b.spareParts(b.named(t.Name), v)
	}
}

func (b *builder) spareParts(n named, v value) {
	for k, list := range n.lists {
		parts := func() {
			for _, part := range list {
				b.spare(part.typ, v.on(part.ahead))
			}
		}
		switch {
		case n.kind == api.ItStruct:
			parts()
		case slices.ContainsFunc(list, func(p part) bool { return b.owns(p.typ) }):
			b.whereSame(v.first(), number(k), parts)
		}
	}
}

// spareBox is spare of a Box, of which the block alone is let go.
func (b *builder) spareBox(block api.Operand) {
	b.sought += len(b.pins)
	for k := range b.pins {
		p := &b.pins[k]
		b.whereSame(block, scalar(p.block), func() { b.standIn(p) })
	}
}

// standIn brings what a pin's Box holds into a local, and lets all borrows of it point there.
func (b *builder) standIn(p *pin) {
	if p.stead == none {
		// It may be filled in one turn of a loop, and be needed behind others: so nothing else has lain in it.
		p.stead = b.newLocal(p.words)
	}
	to := target{api.Place{Local: p.stead}, p.words}
	b.copy(to, heldBy(p.block))
	far := b.bin("sub", b.address(to.at), scalar(p.block))
	gone := b.fresh(1) // as the pin's own is changed
	b.put(gone, scalar(p.block))
	for _, q := range b.pins {
		b.whereSame(scalar(gone.at.Local), scalar(q.block), func() {
			b.put(target{api.Place{Local: q.at}, 1}, b.bin("add", scalar(q.at), far))
			b.put(target{api.Place{Local: q.block}, 1}, number(nowhere))
		})
	}
}

// where builds what is run only if a word is not 0.
func (b *builder) where(word api.Operand, then func()) {
	yes, behind := b.block(), b.block()
	b.fork(word, yes, behind)
	b.begin(yes)
	then()
	b.goTo(behind)
	b.begin(behind)
}

// whereSame builds what is run only if two words are the same.
func (b *builder) whereSame(a, c api.Operand, then func()) {
	b.where(b.bin("sltu", b.bin("xor", a, c), number(1)), then)
}
