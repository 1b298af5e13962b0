package mir

import (
	"math"
	"testing"

	"ferrule/api"
	"ferrule/heap"
)

// kinds is the items of the tests that let values go.
func kinds() []api.Item {
	u8 := ty(api.TyU8)
	return []api.Item{
		{Kind: api.ItFunc, Name: "List"},
		{Kind: api.ItConst, Name: "Pair"},
		structure("Pair", boxed(u8), u8, boxed(u8)),
		enum("List", nil, of(u8, boxed(named("List")))),
		enum("Some", of(boxed(u8)), nil, of(u8, u8, boxed(u8)), of(named("Pair"), boxed(u8))),
		structure("Deep", u8, array(2, named("Some")), named("Pair")),
		enum("Flag", nil, nil),
		structure("Plain", u8, array(3, u8), named("Flag"), ty(api.TyMut, boxed(u8)), ty(api.TyRef, named("Pair"))),
		structure("Round", u8, named("Round")),
		structure("Pair", u8),
		enum("Deep", nil),
	}
}

// house is a main that is made as it goes: its local 0 is for numbers, each block's address is kept in a word of the local 1, and values stand in the local 2.
type house struct {
	list []api.Instr
	made int
}

// block makes a block for so many words, and tells the place that keeps its address.
func (h *house) block(words int) api.Place {
	h.list = append(h.list, alloc(0, words), store(at(1, on(h.made)), v(0)))
	h.made++
	return at(1, on(h.made-1))
}

// box lays the address of a block of one word at a place.
func (h *house) box(p api.Place) {
	h.list = append(h.list, load(0, h.block(1)), store(p, v(0)))
}

func (h *house) add(list ...api.Instr) { h.list = append(h.list, list...) }

// left frees what must still be in use, block by block, and then asks that none of the others is, by allocating all of a class.
func (h *house) left(t *testing.T, what string, still ...int) {
	t.Helper()
	list := append([]api.Instr{}, h.list...)
	for _, k := range still {
		list = append(list, load(0, at(1, on(k))), free(v(0)))
	}
	for _, c := range []struct{ words, blocks int }{{4, 64}, {16, 32}, {64, 16}, {128, 8}} {
		for range c.blocks {
			list = append(list, alloc(0, c.words))
		}
	}
	list = append(list, show(n(1)))
	comes(t, what, exit(1), kinds(), starts([]int{1, 120, 128}, list...))
}

func (h *house) comes(t *testing.T, what string, want api.Outcome) {
	t.Helper()
	comes(t, what, want, kinds(), starts([]int{1, 120, 128}, h.list...))
}

const value = 2 // the local where values stand

func TestDropBoxes(t *testing.T) {
	h := &house{}
	h.box(at(value, on(3)))
	h.add(drop(boxed(ty(api.TyU8)), at(value, on(3))))
	h.left(t, "a Box")

	h = &house{}
	h.box(at(value))
	h.box(at(value, held()))
	h.box(at(value, held(), held()))
	h.box(at(value, on(1)))
	h.add(drop(boxed(boxed(boxed(ty(api.TyU8)))), at(value)))
	h.left(t, "a Box of Boxes", 3)

	h = &house{}
	h.box(at(value))
	h.box(at(value, held()))
	h.add(drop(boxed(ty(api.TyU8)), at(value)))
	h.left(t, "a Box of what is no Box", 1)

	h = &house{}
	h.box(at(value))
	h.add(drop(ty(api.TyMut, boxed(ty(api.TyU8))), at(value)), drop(ty(api.TyRef, boxed(ty(api.TyU8))), at(value)), drop(ty(api.TyU32), at(value)), drop(ty(api.TyUnit), at(value)), drop(ty(api.TyNever), at(value)))
	h.left(t, "what owns nothing", 0)

	h = &house{}
	h.add(alloc(0, 0), store(at(value), v(0)), drop(boxed(ty(api.TyUnit)), at(value)))
	h.left(t, "a Box of no words")
}

func TestDropParts(t *testing.T) {
	h := &house{}
	for k := range 4 {
		h.box(at(value, on(k)))
	}
	h.add(drop(named("Pair"), at(value)))
	h.left(t, "a struct's fields", 1, 3)

	h = &house{}
	for k := range 7 {
		h.box(at(value, on(k)))
	}
	h.add(drop(array(2, named("Pair")), at(value, on(1))))
	h.left(t, "an array's elements", 0, 2, 5)

	h = &house{}
	for k := range 4 {
		h.box(at(value, on(k)))
	}
	h.add(drop(array(2, boxed(ty(api.TyBool))), at(value, on(1))), drop(array(0, boxed(ty(api.TyBool))), at(value)), drop(array(-3, boxed(ty(api.TyBool))), at(value)))
	h.left(t, "an array of Boxes, and arrays of none", 0, 3)

	h = &house{}
	for k := range 14 {
		h.box(at(value, on(k)))
	}
	// A Deep: a u8, two Somes of five words each, a Pair.
	h.add(store(at(value, on(1)), n(2)), store(at(value, on(6)), n(1)), drop(named("Deep"), at(value)))
	h.left(t, "parts within parts", 0, 1, 2, 3, 5, 6, 7, 8, 9, 10, 12)
}

func TestDropVariants(t *testing.T) {
	for which, gone := range map[int][]int{0: {1}, 1: {}, 2: {3}, 3: {1, 3, 4}, 4: {}, -1: {}, math.MinInt32: {}, math.MaxInt32: {}} {
		h := &house{}
		h.add(store(at(value), n(which)))
		for k := range 5 {
			h.box(at(value, on(k+1)))
		}
		h.add(drop(named("Some"), at(value)))
		var still []int
		for k := range 5 {
			in := false
			for _, g := range gone {
				in = in || g == k+1
			}
			if !in {
				still = append(still, k)
			}
		}
		h.left(t, "a variant by its first word", still...)
	}
}

// TestDropLists lets lists go that have as many nodes as there are blocks of their class.
func TestDropLists(t *testing.T) {
	for _, nodes := range []int{0, 1, 2, 63, 64} {
		h := &house{}
		at0 := at(value)
		for k := range nodes {
			h.block(3)
			h.add(load(0, at(1, on(k))), store(at0, n(1)), store(at(value, append(append([]api.Step{}, at0.Steps...), on(2))...), v(0)))
			at0 = at(value, append(append([]api.Step{}, at0.Steps...), on(2), held())...)
		}
		h.add(drop(named("List"), at(value)))
		h.left(t, "a list")
	}
}

// TestDropAll lets a value go that has every block of the heap.
func TestDropAll(t *testing.T) {
	words := func(n int) api.Type { return array(n, ty(api.TyI32)) }
	types := of(array(64, boxed(words(4))), array(32, boxed(words(16))), array(16, boxed(words(64))), array(8, boxed(words(128))))
	items := append(kinds(), structure("All", types...))
	var list []api.Instr
	k := 0
	for _, c := range []struct{ words, blocks int }{{4, 64}, {16, 32}, {64, 16}, {128, 8}} {
		for range c.blocks {
			list = append(list, alloc(0, c.words), store(at(1, on(k)), v(0)))
			k++
		}
	}
	list = append(list, drop(named("All"), at(1)))
	list = append(list, list...)
	comes(t, "all blocks, twice", exit(3), items, starts([]int{1, k}, append(list, show(n(3)))...))
}

func TestDropRefused(t *testing.T) {
	u8 := ty(api.TyU8)
	for _, c := range []struct {
		what string
		do   func(h *house)
	}{
		{"a Box that is 0", func(h *house) { h.add(drop(boxed(u8), at(value))) }},
		{"a Box of nothing that is 0", func(h *house) { h.add(drop(boxed(ty(api.TyUnit)), at(value))) }},
		{"a Box that was let go", func(h *house) { h.box(at(value)); h.add(drop(boxed(u8), at(value)), drop(boxed(u8), at(value))) }},
		{"a Box in the midst of a block", func(h *house) {
			h.box(at(value))
			h.add(load(0, at(value)), bin(0, v(0), "add", n(4)), store(at(value), v(0)), drop(boxed(u8), at(value)))
		}},
		{"a Box between words", func(h *house) {
			h.box(at(value))
			h.add(load(0, at(value)), bin(0, v(0), "add", n(2)), store(at(value), v(0)), drop(boxed(u8), at(value)))
		}},
		{"a Box of a local", func(h *house) { h.add(addr(0, at(value)), store(at(value), v(0)), drop(boxed(u8), at(value))) }},
		{"two Boxes of one block", func(h *house) {
			h.box(at(value))
			h.add(move(1, at(value, on(2)), at(value)), drop(named("Pair"), at(value)))
		}},
		{"a Box of a Box that is 0", func(h *house) { h.box(at(value)); h.add(drop(boxed(boxed(u8)), at(value))) }},
		{"a Box in itself", func(h *house) {
			h.box(at(value))
			h.add(load(0, at(value)), store(at(value, held()), v(0)), drop(boxed(boxed(u8)), at(value)))
		}},
		{"a second element beyond memory", func(h *house) { h.box(at(value, on(127))); h.add(drop(array(2, boxed(u8)), at(value, on(127)))) }},
		{"an enum beyond memory", func(h *house) { h.add(drop(named("Some"), at(value, on(128)))) }},
		{"a variant beyond memory", func(h *house) { h.add(drop(named("Some"), at(value, on(127)))) }},
		{"a list whose node was let go", func(h *house) {
			h.add(alloc(0, 3), store(at(value), n(1)), store(at(value, on(2)), v(0)), free(v(0)), drop(named("List"), at(value)))
		}},
	} {
		h := &house{}
		h.add(show(n(1)))
		c.do(h)
		h.add(show(n(2)))
		h.comes(t, c.what, trapped(1))
	}
}

// TestDropCircles lets lists go whose last node points to an earlier one: that has no end, so it is refused.
func TestDropCircles(t *testing.T) {
	for _, nodes := range []int{1, 2, 5, 64} {
		for back := range nodes {
			h := &house{}
			for range nodes {
				h.block(3)
			}
			for k := range nodes {
				next := k + 1
				if next == nodes {
					next = back
				}
				h.add(load(0, at(1, on(next))), store(at(1, on(k), held()), n(1)), store(at(1, on(k), held(), on(2)), v(0)))
			}
			h.add(drop(boxed(named("List")), at(1)), show(n(1)))
			h.comes(t, "a circle", trapped())
		}
	}
	u8 := ty(api.TyU8)
	for _, x := range of(boxed(boxed(u8)), boxed(named("List")), boxed(array(3, boxed(boxed(u8))))) {
		comes(t, "a circle of locals", trapped(), kinds(), starts([]int{4, 1}, addr(1, at(0)), store(at(0), v(1)), store(at(0, on(1)), v(1)), store(at(0, on(2)), v(1)), drop(x, at(1)), show(n(1))))
	}
}

// TestDropOfPlainValues lets values go that own nothing: no word of them is used, so they may stand anywhere.
func TestDropOfPlainValues(t *testing.T) {
	items := append(kinds(), enum("Hollow", of(array(0, boxed(ty(api.TyU8))))))
	for _, x := range of(named("Hollow"), named("Plain"), named("Flag"), array(math.MaxInt, ty(api.TyU8)), array(5, named("Flag")), ty(api.TyMut, boxed(ty(api.TyU8))), array(1<<40, ty(api.TyMut, ty(api.TyU8))), array(1<<40, array(1<<40, ty(api.TyUnit)))) {
		comes(t, "a plain value", exit(1), items, starts([]int{1}, drop(x, at(0, on(1000))), show(n(1))))
	}
}

// TestDropOfOtherTypes lets go what types tells no words of, as far as its parts have a place.
func TestDropOfOtherTypes(t *testing.T) {
	u8 := ty(api.TyU8)
	items := append(kinds(), structure("Big", boxed(u8), array(126, u8), boxed(u8), boxed(u8)), structure("Odd", boxed(u8), named("Nobody"), boxed(u8)),
		structure("Self", boxed(u8), named("Self")), enum("Tall", of(boxed(u8), array(200, u8))))
	boxes := func(places ...int) []api.Instr {
		h := &house{}
		for _, k := range places {
			h.box(at(value, on(k)))
		}
		return h.list
	}
	for _, c := range []struct {
		what  string
		x     api.Type
		boxes []int
		print []int // the blocks that are least, not in use, behind it
	}{
		{"too many words", named("Big"), []int{0, 127, 128}, []int{0, 1}},
		{"an array", array(2, named("Some")), []int{1, 6, 9}, []int{0, 1}},
		{"a part that nobody knows", named("Odd"), []int{0, 1, 2}, []int{0, 3}},
		{"a struct in itself", named("Self"), []int{0, 1}, []int{0, 2}},
		{"a variant of too many words", named("Tall"), []int{1}, []int{0, 1}},
		{"nobody", named("Nobody"), []int{0}, []int{1, 2}},
		{"another kind", api.Type{Kind: 99, Elem: of(boxed(u8))}, []int{0}, []int{1, 2}},
		{"a kind below 0", api.Type{Kind: -1, Name: "Pair"}, []int{0}, []int{1, 2}},
		{"no type", api.Type{}, []int{0}, []int{1, 2}},
		{"a Box of no type", ty(api.TyBox), []int{0}, []int{0, 1}},
		{"a Box of nobody", boxed(named("Nobody")), []int{0}, []int{0, 1}},
		{"a Box of itself", boxed(named("Round")), []int{0}, []int{0, 1}},
		{"an array of no type", ty(api.TyArray), []int{0}, []int{1, 2}},
		{"an array of so many of no type", api.Type{Kind: api.TyArray, N: math.MaxInt}, []int{0}, []int{1, 2}},
		{"an array of nobody", array(math.MaxInt, named("Nobody")), []int{0}, []int{1, 2}},
		{"a function's name", named("main"), []int{0}, []int{1, 2}},
	} {
		list := append(boxes(c.boxes...), drop(c.x, at(value)))
		want := []int{}
		for _, k := range c.print {
			want = append(want, heap.Base+16*k)
			list = append(list, alloc(0, 1), show(v(0)))
		}
		comes(t, c.what, exit(want...), items, starts([]int{1, 120, 300}, list...))
	}
	items = append(items, enum("Perhaps", nil, of(boxed(u8))))
	comes(t, "an array of too many words", exit(heap.Base, heap.Base+16, heap.Base+48), items, starts([]int{1, 120, 300}, append(boxes(1, 199, 200),
		store(at(value), n(1)), store(at(value, on(198)), n(1)), drop(array(100, named("Perhaps")), at(value)), alloc(0, 1), show(v(0)), alloc(0, 1), show(v(0)), alloc(0, 1), show(v(0)))...))
	comes(t, "an array that is longer than memory", trapped(), items, starts([]int{1, 512}, drop(array(math.MaxInt, named("Some")), at(1))))
	comes(t, "no items", exit(heap.Base+16), nil, starts([]int{1, 4}, alloc(0, 1), store(at(1), v(0)), drop(named("Pair"), at(1)), alloc(0, 1), show(v(0))))
}

// TestDropDeepTypes lets go what has very many types in one another.
func TestDropDeepTypes(t *testing.T) {
	x, y := ty(api.TyU8), boxed(ty(api.TyU8))
	for range 1 << 16 {
		x, y = boxed(x), array(1, y)
	}
	comes(t, "Boxes in Boxes", trapped(), nil, starts([]int{1}, drop(x, at(0))))
	comes(t, "arrays in arrays", exit(1), nil, starts([]int{1}, drop(y, at(0)), show(n(1))))
}

func TestHeldValues(t *testing.T) {
	pair := named("Pair")
	fill := func(h *house) {
		h.box(at(value))
		h.box(at(value, on(2)))
	}
	h := &house{}
	fill(h)
	h.add(empty(pair, value))
	h.left(t, "at first it holds none", 0, 1)

	h = &house{}
	fill(h)
	h.add(give(value), empty(pair, value), empty(pair, value))
	h.left(t, "given, and cleared twice")

	h = &house{}
	fill(h)
	h.add(give(value), take(value), empty(pair, value))
	h.left(t, "given and taken", 0, 1)

	h = &house{}
	fill(h)
	h.add(take(value), give(value), give(value), empty(pair, value), empty(pair, value))
	h.left(t, "taken and given, twice")

	h = &house{}
	fill(h)
	h.add(give(value), empty(pair, value))
	fill(h)
	h.add(empty(pair, value))
	h.left(t, "behind a clear it holds none", 2, 3)

	h = &house{}
	fill(h)
	h.add(give(value), drop(pair, at(value)))
	h.add(empty(ty(api.TyU8), value), empty(pair, value))
	h.left(t, "a clear of another type is one too")

	h = &house{}
	fill(h)
	h.add(give(1), give(0), empty(pair, value))
	h.left(t, "others hold one", 0, 1)

	h = &house{}
	fill(h)
	h.add(give(value), drop(pair, at(value)), empty(pair, value))
	h.comes(t, "a drop takes nothing", trapped())
}

// TestHeldByCalls: each call's locals hold values of their own, params too.
func TestHeldByCalls(t *testing.T) {
	box := boxed(ty(api.TyU8))
	comes(t, "calls", exit(heap.Base+32, heap.Base, heap.Base+48), nil,
		starts([]int{1, 1}, alloc(0, 1), give(0), alloc(1, 1), calls(nil, "f", v(1), n(1)), empty(box, 0), alloc(0, 1), show(v(0)), alloc(0, 1), show(v(0))),
		fn("f", []int{1, 1, 1}, 2, 0,
			block(branch(v(1), 1, 2), empty(box, 0)),
			block(answer(), give(0), calls(nil, "f", v(0), n(0)), take(0), alloc(2, 1), show(v(2))),
			block(answer(), empty(box, 0))))
	comes(t, "a local of no words", exit(1), nil, starts([]int{0}, give(0), empty(ty(api.TyUnit), 0), take(0), show(n(1))))
}
