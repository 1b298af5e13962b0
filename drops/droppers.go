package drops

import (
	"math"
	"strconv"

	"ferrule/api"
	"ferrule/show"
)

const (
	// named is what the names of functions begin with that let values go.
	named = "drop "
	// mostText is how many bytes of a type's text a name has at most: those of very many types in one another are too many together.
	mostText = 4 * api.MaxName
	// noAddress is neither an address nor the number of a variant.
	noAddress = -1
)

// dropperOf tells the name of the function that lets a value of a kind go, by its address.
func (e *elaborator) dropperOf(x *kind) string {
	if x.dropper == "" {
		x.dropper = e.newName(x)
		e.wanted = append(e.wanted, x)
	}
	return x.dropper
}

// newName tells a name that no function has. Types that are not alike may have the same text.
func (e *elaborator) newName(x *kind) string {
	first := named
	if x.long <= mostText {
		first += show.Type(*x.typ)
	}
	name := first
	for e.taken[name] != 0 {
		e.numbered++
		name = first + "#" + strconv.Itoa(e.numbered)
	}
	e.taken[name] = 1
	return name
}

// dropper is the function that lets a value of a kind go.
func (e *elaborator) dropper(x *kind) api.Mir {
	w := &writer{elaborator: e, marks: true, f: api.Mir{Name: x.dropper, Locals: []int{1}, Params: 1, Quiet: true, Blocks: []api.Block{{}}}}
	w.drop(x, api.Place{Steps: []api.Step{{Kind: api.StHeld}}})
	w.end(api.Term{Kind: api.TeReturn})
	return w.f
}

// drop lets a value go that stands at a place.
func (w *writer) drop(x *kind, p api.Place) {
	switch w.open(x); {
	case x.typ.Kind == api.TyBox:
		w.dropBox(x, p)
	case x.typ.Kind == api.TyArray && x.typ.N > 1:
		w.dropElements(x, p)
	case x.typ.Kind == api.TyArray:
		w.drop(x.elem, p)
	case x.enum:
		w.dropVariant(x.lists, p)
	default:
		w.dropParts(x.lists[0].parts, p)
	}
}

// dropBox lets a Box go.
func (w *writer) dropBox(x *kind, p api.Place) {
	at := w.wordAt(p)
	if w.pointsToOwner(x) {
		w.mark(p, number(noAddress))
		w.dropHeld(x.elem, at)
		w.mark(p, at)
	}
	w.add(api.Instr{Op: api.OpFree, A: at})
}

// mark lays another word where a Box stands, and the Box there again, as around the letting go of what it points to: so Boxes in a circle come to a word that may not be used, and not to calls without an end.
// That circle goes through functions that let go what a Box points to, wherever it was entered: it is enough that these do so.
func (w *writer) mark(p api.Place, word api.Operand) {
	if w.marks {
		w.add(api.Instr{Op: api.OpStore, P: then(p), A: word})
	}
}

// dropHeld lets the value go that stands at an address.
func (w *writer) dropHeld(x *kind, at api.Operand) {
	w.add(api.Instr{Op: api.OpCall, Text: w.dropperOf(x), Args: []api.Operand{at}})
}

// dropElements lets those of an array go, one behind the other.
func (w *writer) dropElements(x *kind, p api.Place) {
	at, body, behind := w.openLoop(), w.newBlock(), w.newBlock()
	w.set(at, 0)
	w.goOn(body)
	w.drop(x.elem, then(p, api.Step{Kind: api.StIndex, N: at, Size: x.elem.words}))
	w.add(api.Instr{Op: api.OpBin, Dst: at, A: api.Operand{N: at}, Text: "add", B: number(1)})
	w.branch(w.ask(at, "slt", min(x.typ.N, math.MaxInt32)), body, behind)
	w.block = behind
	w.loops--
}

// openLoop tells the scalar that counts the turns of a loop within those that are being written.
func (w *writer) openLoop() int {
	if w.loops == len(w.turns) {
		w.turns = append(w.turns, w.newScalar())
	}
	w.loops++
	return w.turns[w.loops-1]
}

// dropVariant lets go what the variant has that an enum's first word tells.
func (w *writer) dropVariant(lists []list, p api.Place) {
	w.choose(lists, p, w.load(p), w.newBlock())
}

// choose halves the variants till one is left: if it is not the one, and behind it, what is written goes on in a block behind them all.
func (w *writer) choose(lists []list, p api.Place, which, behind int) {
	half := len(lists) / 2
	first := w.newBlock()
	if half == 0 {
		w.branch(w.ask(which, "xor", lists[0].which), behind, first)
		w.block = first
		w.dropParts(lists[0].parts, p)
		w.goOn(behind)
		return
	}
	second := w.newBlock()
	w.branch(w.ask(which, "slt", lists[half].which), first, second)
	w.block = first
	w.choose(lists[:half], p, which, behind)
	w.block = second
	w.choose(lists[half:], p, which, behind)
}

func (w *writer) dropParts(list []part, p api.Place) {
	for _, x := range list {
		w.drop(x.kind, on(p, x.ahead))
	}
}
