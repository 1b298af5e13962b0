package build

import (
	"cmp"
	"slices"

	"ferrule/api"
	"ferrule/num"
	"ferrule/shapes"
)

// few is how many words a match asks for one behind the other; of more of them each question puts half aside.
const few = 3

// none is no block, or no local.
const none = -1

// way is where a match goes for a word.
type way struct{ word, block int }

func (b *builder) match(x *api.Expr, to target) {
	value, arms := &x.Kids[0], x.Kids[1:]
	from, room := b.matched(value)
	word := b.load(from)
	first := len(b.f.Blocks)
	for range arms {
		b.block()
	}
	ways, other := b.ways(&value.Type, arms, first)
	b.choose(word, ways, other)
	behind := b.block()
	for k := range arms {
		b.begin(first + k)
		b.arm(&arms[k], &value.Type, from, room, to)
		b.goTo(behind)
	}
	if room != none {
		b.release(room)
	}
	b.begin(behind)
}

// matched builds the value of a match, and tells where it stands, and the local that it was brought to, if it was.
func (b *builder) matched(x *api.Expr) (from api.Place, room int) {
	words := b.words(&x.Type)
	switch {
	case shapes.IsPlace(x.Kind):
		from = b.place(x, false)
		b.taken(x)
		return from, none
	case words == 1:
		return api.Place{Local: b.inLocal(b.operand(x))}, none
	}
	to := b.fresh(words)
	b.into(x, to)
	return to.at, to.at.Local
}

// ways tells where a match goes for which word, rising, and for all others; none: there are no others.
func (b *builder) ways(of *api.Type, arms []api.Expr, first int) (list []way, other int) {
	other = none
	for k := range arms {
		pattern := &arms[k].Kids[0]
		if pattern.Kind == api.PaAny {
			other = first + k
			break
		}
		list = append(list, way{b.patternWord(pattern, of), first + k})
	}
	// Of two that have one word the first one is taken.
	slices.SortStableFunc(list, func(a, c way) int { return cmp.Compare(a.word, c.word) })
	list = slices.CompactFunc(list, func(a, c way) bool { return a.word == c.word })
	if other == none && len(list) != b.manyWords(of) {
		other = b.panicking()
	}
	return list, other
}

// patternWord is the word by which a pattern is known.
func (b *builder) patternWord(pattern *api.Expr, of *api.Type) int {
	switch pattern.Kind {
	case api.PaInt:
		must(num.Int(of.Kind))
	case api.PaBool:
		must(of.Kind == api.TyBool)
	case api.PaVariant:
		all := b.enumOf(of)
		must(pattern.Num >= 0 && pattern.Num < len(all) && len(pattern.Kids) == len(all[pattern.Num]))
	default:
		must(false)
	}
	return number(pattern.Num).N
}

// manyWords tells how many words patterns of a type may be known by; none: they are not counted.
func (b *builder) manyWords(of *api.Type) int {
	switch {
	case of.Kind == api.TyBool:
		return 2
	case num.Int(of.Kind):
		return none
	}
	return len(b.enumOf(of))
}

// choose goes where a word leads.
func (b *builder) choose(word api.Operand, list []way, other int) {
	switch {
	case len(list) == 0 && other == none:
		b.goTo(b.panicking()) // of a type without values
	case len(list) == 0:
		b.goTo(other)
	case len(list) == 1 && other == none:
		b.goTo(list[0].block)
	case len(list) <= few:
		rest := b.block()
		b.fork(b.bin("xor", word, number(list[0].word)), rest, list[0].block)
		b.begin(rest)
		b.choose(word, list[1:], other)
	default:
		half, below, above := len(list)/2, b.block(), b.block()
		b.fork(b.bin("slt", word, number(list[half].word)), below, above)
		b.begin(below)
		b.choose(word, list[:half], other)
		b.begin(above)
		b.choose(word, list[half:], other)
	}
}

// arm builds what is done for a pattern. Where the value stood is free for others, once the pattern's names have its parts.
func (b *builder) arm(x *api.Expr, of *api.Type, from api.Place, room int, to target) {
	first := len(b.variables)
	b.bind(&x.Kids[0], of, from)
	if room != none {
		b.release(room)
	}
	b.into(&x.Kids[1], to)
	b.undeclare(first)
	if room != none {
		b.reserve(room)
	}
}

// bind gives the parts of a value to the names of a pattern; those without one are let go.
func (b *builder) bind(pattern *api.Expr, of *api.Type, from api.Place) {
	if pattern.Kind != api.PaVariant {
		b.letGo(of, from)
		return
	}
	for k, part := range b.enumOf(of)[pattern.Num] {
		name, at := &pattern.Kids[k], onward(from, part.ahead)
		if name.Num < 0 {
			b.letGo(part.typ, at)
			continue
		}
		local := b.room(part.words)
		b.copy(target{api.Place{Local: local}, part.words}, at)
		b.declare(name.Num, local, part.typ)
	}
}

// letGo lets a value go that stands somewhere.
func (b *builder) letGo(t *api.Type, at api.Place) {
	if b.owns(t) {
		b.spareAt(t, at)
		b.add(api.Instr{Op: api.OpDrop, P: at, Type: *t})
	}
}
