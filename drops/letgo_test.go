package drops_test

import (
	"math"
	"slices"
	"strconv"
	"testing"

	"ferrule/api"
	"ferrule/heap"
	"ferrule/mir"
)

// P14.2 of functions made by hand: which blocks are let go, and which runs may not go on.

// kinds is the items of the tests that let values go.
func kinds() []api.Item {
	return []api.Item{
		{Kind: api.ItFunc, Name: "List"},
		{Kind: api.ItConst, Name: "Pair"},
		structure("Pair", boxed(u8), u8, boxed(u8)),
		enum("List", nil, of(u8, boxed(named("List")))),
		enum("Some", of(boxed(u8)), nil, of(u8, u8, boxed(u8)), of(named("Pair"), boxed(u8))),
		structure("Deep", u8, array(2, named("Some")), named("Pair")),
		structure("Plain", u8, array(3, u8), ty(api.TyMut, boxed(u8)), ty(api.TyRef, named("Pair"))),
		{Kind: api.ItStruct, Name: "Fields", Params: structure("", u8, u8).Params, Variants: enum("", of(boxed(u8)), of(boxed(u8))).Variants},
		{Kind: api.ItEnum, Name: "Variants", Params: structure("", boxed(u8), boxed(u8)).Params, Variants: enum("", nil, of(u8, boxed(u8))).Variants},
		structure("Pair", u8),
		enum("Deep", nil),
	}
}

// house is a main that is made as it goes: its local 0 is for numbers, each block's address is kept in a word of the local 1, and values stand in the local 2.
type house struct {
	list []api.Instr
	made int
}

// block makes a block for so many words, and tells the place that keeps its address.
func (h *house) block(words int) api.Place {
	h.list = append(h.list, alloc(0, words), store(at(1, step(h.made)), v(0)))
	h.made++
	return at(1, step(h.made-1))
}

// box lays the address of a block of one word at a place.
func (h *house) box(p api.Place) {
	h.list = append(h.list, load(0, h.block(1)), store(p, v(0)))
}

func (h *house) add(list ...api.Instr) { h.list = append(h.list, list...) }

// left frees what must still be in use, block by block, and then asks that none of the others is, by allocating all of them; what it comes to is the same elaborated.
func (h *house) left(t *testing.T, what string, still ...int) {
	t.Helper()
	list := slices.Clone(h.list)
	for _, k := range still {
		list = append(list, load(0, at(1, step(k))), free(v(0)))
	}
	for _, c := range []struct{ words, blocks int }{{4, 64}, {16, 32}, {64, 16}, {128, 8}} {
		for range c.blocks {
			list = append(list, alloc(0, c.words))
		}
	}
	comes(t, what, api.OutExit, 0, []int{1}, kinds(), starts([]int{1, 120, 128}, append(list, show(n(1)))...))
}

const value = 2 // the local where values stand

func TestDropBoxes(t *testing.T) {
	h := &house{}
	h.box(at(value, step(3)))
	h.add(drop(boxed(u8), at(value, step(3))))
	h.left(t, "a Box")

	h = &house{}
	h.box(at(value))
	h.box(at(value, held()))
	h.box(at(value, held(), held()))
	h.box(at(value, step(1)))
	h.add(drop(boxed(boxed(boxed(u8))), at(value)))
	h.left(t, "a Box of Boxes", 3)

	h = &house{}
	h.box(at(value))
	h.box(at(value, held()))
	h.add(drop(boxed(u8), at(value)))
	h.left(t, "a Box of what is no Box", 1)

	h = &house{}
	h.box(at(value))
	h.add(drop(ty(api.TyMut, boxed(u8)), at(value)), drop(ty(api.TyRef, boxed(u8)), at(value)), drop(ty(api.TyU32), at(value)), drop(ty(api.TyUnit), at(value)), drop(named("Plain"), at(value)))
	h.left(t, "what owns nothing", 0)

	h = &house{}
	h.add(alloc(0, 0), store(at(value), v(0)), drop(boxed(ty(api.TyUnit)), at(value)))
	h.left(t, "a Box of no words")
}

func TestDropParts(t *testing.T) {
	h := &house{}
	for k := range 4 {
		h.box(at(value, step(k)))
	}
	h.add(drop(named("Pair"), at(value)))
	h.left(t, "a struct's fields", 1, 3)

	h = &house{}
	for k := range 7 {
		h.box(at(value, step(k)))
	}
	h.add(drop(array(2, named("Pair")), at(value, step(1))))
	h.left(t, "an array's elements", 0, 2, 5)

	h = &house{}
	for k := range 4 {
		h.box(at(value, step(k)))
	}
	h.add(drop(array(2, boxed(ty(api.TyBool))), at(value, step(1))), drop(array(0, boxed(u8)), at(value)), drop(array(-3, boxed(u8)), at(value)), drop(array(0, ty(99)), at(value)))
	h.left(t, "an array of Boxes, and arrays of none", 0, 3)

	h = &house{}
	for k := range 14 {
		h.box(at(value, step(k)))
	}
	// A Deep: a u8, two Somes of five words each, a Pair.
	h.add(store(at(value, step(1)), n(2)), store(at(value, step(6)), n(1)), drop(named("Deep"), at(value)))
	h.left(t, "parts within parts", 0, 1, 2, 3, 5, 6, 7, 8, 9, 10, 12)

	h = &house{}
	for k := range 5 {
		h.box(at(value, step(k)))
	}
	h.add(store(at(value, step(2)), n(1)), drop(named("Fields"), at(value)), drop(named("Variants"), at(value, step(2))))
	h.left(t, "fields are a struct's, variants an enum's", 0, 1, 2, 3)

	h = &house{}
	for k := range 12 {
		h.box(at(value, step(k)))
	}
	h.add(drop(array(2, array(2, array(3, boxed(u8)))), at(value)))
	h.left(t, "arrays in arrays")

	h = &house{}
	h.block(14)
	h.add(load(0, at(1)), store(at(value), v(0)), store(at(value, held(), step(1)), n(3)), store(at(value, held(), step(6)), n(0)))
	for _, k := range []int{2, 4, 5, 7, 11, 13} {
		h.box(at(value, held(), step(k)))
	}
	h.add(drop(boxed(named("Deep")), at(value)))
	h.left(t, "parts within parts within a Box")
}

func TestDropVariants(t *testing.T) {
	for which, gone := range map[int][]int{0: {1}, 1: {}, 2: {3}, 3: {1, 3, 4}, 4: {}, -1: {}, math.MinInt32: {}, math.MaxInt32: {}} {
		h := &house{}
		h.add(store(at(value), n(which)))
		for k := range 5 {
			h.box(at(value, step(k+1)))
		}
		h.add(drop(named("Some"), at(value)))
		var still []int
		for k := range 5 {
			if !slices.Contains(gone, k+1) {
				still = append(still, k)
			}
		}
		h.left(t, "a variant by its first word: "+strconv.Itoa(which), still...)
	}
}

// Of very many variants each is found.
func TestManyVariants(t *testing.T) {
	var variants [][]api.Type
	for k := range 300 {
		list := of(boxed(u8))
		if k%7 == 3 {
			list = nil
		} else if k%2 == 1 {
			list = of(u8, boxed(u8))
		}
		variants = append(variants, list)
	}
	items := []api.Item{enum("E", variants...)}
	l := []api.Mir{starts([]int{1, 3}, read(0), store(at(1), v(0)), alloc(0, 1), store(at(1, step(1)), v(0)), alloc(0, 1), store(at(1, step(2)), v(0)), drop(named("E"), at(1)), alloc(0, 1), show(v(0)))}
	out := elaborated(t, items, l)
	for k := -3; k < 305; k++ {
		want := heap.Base + 32
		switch {
		case k < 0 || k >= 300 || k%7 == 3:
		case k%2 == 1:
			want = heap.Base + 16
		default:
			want = heap.Base
		}
		got, steps := mir.Run(items, out, []int{k}, plenty)
		if !alike(got, api.Outcome{Kind: api.OutExit, Print: []int{want}}) || steps > 60 {
			t.Errorf("%d: %v by %d steps, not %d", k, got, steps, want)
		}
	}
	wantAgree(t, items, l, []int{299})
}

// TestDropLists lets lists go that have as many nodes as there are blocks of their class.
func TestDropLists(t *testing.T) {
	for _, nodes := range []int{0, 1, 2, 63, 64} {
		h := &house{}
		steps := []api.Step{}
		for k := range nodes {
			h.block(3)
			h.add(load(0, at(1, step(k))), store(at(value, slices.Clone(steps)...), n(1)), store(at(value, append(slices.Clone(steps), step(2))...), v(0)))
			steps = append(steps, step(2), held())
		}
		h.add(drop(named("List"), at(value)))
		h.left(t, "a list")
	}
}

// TestDropAll lets a value go that has every block of the heap.
func TestDropAll(t *testing.T) {
	words := func(n int) api.Type { return array(n, ty(api.TyI32)) }
	types := of(array(64, boxed(words(4))), array(32, boxed(words(16))), array(16, boxed(words(64))), array(8, boxed(words(128))))
	items := append(kinds(), structure("All", types...))
	var list []api.Instr
	k := 0
	for _, c := range []struct{ words, blocks int }{{4, 64}, {16, 32}, {64, 16}, {128, 8}} {
		for range c.blocks {
			list = append(list, alloc(0, c.words), store(at(1, step(k)), v(0)))
			k++
		}
	}
	list = append(list, drop(named("All"), at(1)))
	list = append(list, list...)
	comes(t, "all blocks, twice", api.OutExit, 0, []int{3}, items, starts([]int{1, k}, append(list, show(n(3)))...))
}

func TestDropRefused(t *testing.T) {
	for _, c := range []struct {
		what string
		do   func(h *house)
	}{
		{"a Box that is 0", func(h *house) { h.add(drop(boxed(u8), at(value))) }},
		{"a Box that was let go", func(h *house) { h.box(at(value)); h.add(drop(boxed(u8), at(value)), drop(boxed(u8), at(value))) }},
		{"a Box that is held, too", func(h *house) {
			h.box(at(value))
			h.add(give(value), drop(boxed(u8), at(value)), empty(boxed(u8), value))
		}},
		{"in its Box and around it", func(h *house) {
			h.box(at(value))
			h.box(at(value, held()))
			h.add(drop(boxed(u8), at(value, held())), drop(boxed(boxed(u8)), at(value)))
		}},
		{"a Box in the midst of a block", func(h *house) {
			h.box(at(value))
			h.add(load(0, at(value)), bin(0, v(0), "add", n(4)), store(at(value), v(0)), drop(boxed(u8), at(value)))
		}},
		{"a Box of Boxes in the midst of a block", func(h *house) {
			h.box(at(value))
			h.box(at(value, held(), step(1)))
			h.add(load(0, at(value)), bin(0, v(0), "add", n(4)), store(at(value), v(0)), drop(boxed(boxed(u8)), at(value)))
		}},
		{"a Box of a local", func(h *house) { h.add(addr(0, at(value)), store(at(value), v(0)), drop(boxed(u8), at(value))) }},
		{"two Boxes of one block", func(h *house) {
			h.box(at(value))
			h.add(move(1, at(value, step(2)), at(value)), drop(named("Pair"), at(value)))
		}},
		{"a Box of a Box that is 0", func(h *house) { h.box(at(value)); h.add(drop(boxed(boxed(u8)), at(value))) }},
		{"a Box in itself", func(h *house) {
			h.box(at(value))
			h.add(load(0, at(value)), store(at(value, held()), v(0)), drop(boxed(boxed(u8)), at(value)))
		}},
		{"a second element beyond memory", func(h *house) { h.box(at(value, step(127))); h.add(drop(array(2, boxed(u8)), at(value, step(127)))) }},
		{"an enum beyond memory", func(h *house) { h.add(drop(named("Some"), at(value, step(128)))) }},
		{"a variant beyond memory", func(h *house) { h.add(drop(named("Some"), at(value, step(127)))) }},
		{"a list whose node was let go", func(h *house) {
			h.add(alloc(0, 3), store(at(value), n(1)), store(at(value, step(2)), v(0)), free(v(0)), drop(named("List"), at(value)))
		}},
		{"a way through no address", func(h *house) { h.add(drop(u8, at(value, held(), held()))) }},
		{"a way through what is not there", func(h *house) { h.add(drop(u8, at(value, step(128), held()))) }},
	} {
		h := &house{}
		h.add(show(n(1)))
		c.do(h)
		comes(t, c.what, api.OutTrap, 0, []int{1}, kinds(), starts([]int{1, 120, 128}, append(h.list, show(n(2)))...))
	}
}

// Boxes in a circle have no end: they are refused.
func TestCircles(t *testing.T) {
	for _, nodes := range []int{1, 2, 5, 64} {
		for back := range nodes {
			h := &house{}
			for range nodes {
				h.block(3)
			}
			for k := range nodes {
				next := k + 1
				if next == nodes {
					next = back
				}
				h.add(load(0, at(1, step(next))), store(at(1, step(k), held()), n(1)), store(at(1, step(k), held(), step(2)), v(0)))
			}
			h.add(drop(boxed(named("List")), at(1)), show(n(1)))
			comes(t, "a circle", api.OutTrap, 0, nil, kinds(), starts([]int{1, 120, 128}, h.list...))
		}
	}
	for _, x := range of(boxed(boxed(u8)), boxed(named("List")), boxed(array(3, boxed(boxed(u8))))) {
		comes(t, "a circle of locals", api.OutTrap, 0, nil, kinds(), starts([]int{4, 1}, addr(1, at(0)), store(at(0), v(1)), store(at(0, step(1)), v(1)), store(at(0, step(2)), v(1)), drop(x, at(1)), show(n(1))))
	}
	// A Box of very many Boxes in one another that is in itself.
	x := u8
	for range 1000 {
		x = boxed(x)
	}
	comes(t, "Boxes in themselves", api.OutTrap, 0, nil, nil, starts([]int{1}, alloc(0, 1), store(at(0, held()), v(0)), drop(x, at(0)), show(n(1))))
}

// What is let go leaves its words: whoever makes a block there finds them.
func TestWordsStay(t *testing.T) {
	h := &house{}
	h.block(2)
	h.block(3)
	h.block(3)
	h.add(load(0, at(1)), store(at(value), v(0)), load(0, at(1, step(1))), store(at(value, held()), v(0)), load(0, at(1, step(2))), store(at(value, held(), step(1)), v(0)))
	h.add(store(at(1, step(1), held()), n(0)), store(at(1, step(2), held()), n(0)), drop(boxed(array(2, boxed(named("List")))), at(value)))
	h.add(load(0, at(value)), show(v(0)), alloc(0, 2), load(0, at(0, held())), show(v(0)), load(0, at(1)), load(0, at(0, held(), step(1))), show(v(0)))
	comes(t, "the words of what was let go", api.OutExit, 0, []int{heap.Base, heap.Base + 16, heap.Base + 32}, kinds(), starts([]int{1, 120, 128}, h.list...))
}

// What a Box points to may be of a type that types tells no words of: it is let go as far as its parts have a place.
func TestBoxesOfOtherTypes(t *testing.T) {
	items := append(kinds(), structure("Big", boxed(u8), array(126, u8), boxed(u8), boxed(u8)), structure("Odd", boxed(u8), named("Nobody"), boxed(u8)),
		structure("Self", boxed(u8), named("Self")), enum("Tall", nil, of(boxed(u8), array(200, u8))), structure("Round", u8, named("Round")), enum("Perhaps", nil, of(boxed(u8))), structure("Far", slices.Repeat(of(array(128, u8)), 600)...), structure("Farther", append(slices.Repeat(of(array(128, u8)), 600), boxed(u8))...))
	for _, c := range []struct {
		what  string
		x     api.Type
		boxes []int
		print []int // the blocks that are least, not in use, behind it
	}{
		{"too many words", named("Big"), []int{0, 127, 128}, []int{0, 1}},
		{"a part that nobody knows", named("Odd"), []int{0, 1, 2}, []int{0, 3}},
		{"a struct in itself", named("Self"), []int{0, 1}, []int{0, 2}},
		{"a variant of too many words", named("Tall"), []int{1}, []int{0, 1}},
		{"nobody", named("Nobody"), []int{0}, []int{1, 2}},
		{"another kind", api.Type{Kind: 99, Elem: of(boxed(u8))}, []int{0}, []int{1, 2}},
		{"a kind below 0", api.Type{Kind: -1, Name: "Pair"}, []int{0}, []int{1, 2}},
		{"no type", api.Type{}, []int{0}, []int{1, 2}},
		{"never", ty(api.TyNever), []int{0}, []int{1, 2}},
		{"a Box of no type", ty(api.TyBox), []int{0}, []int{0, 1}},
		{"a Box of nobody", boxed(named("Nobody")), []int{0}, []int{0, 1}},
		{"a Box of itself", boxed(named("Round")), []int{0}, []int{0, 1}},
		{"an array of no type", ty(api.TyArray), []int{0}, []int{1, 2}},
		{"an array of so many of no type", api.Type{Kind: api.TyArray, N: math.MaxInt}, []int{0}, []int{1, 2}},
		{"an array of nobody", array(math.MaxInt, named("Nobody")), []int{0}, []int{1, 2}},
		{"a function's name", named("main"), []int{0}, []int{1, 2}},
		{"a struct of very many words", named("Far"), []int{0}, []int{1, 2}},
		{"an array of too many words", array(100, named("Perhaps")), []int{1}, []int{0, 1}},
	} {
		// The value stands in the heap's last blocks, one behind the other: only what points to the first one is a Box.
		list := []api.Instr{}
		for k := range 8 {
			list = append(list, alloc(0, 128), store(at(1, step(k)), v(0)))
		}
		list = append(list, store(at(1, held()), n(1)))
		for _, k := range c.boxes {
			list = append(list, alloc(0, 1), store(at(1, held(), step(k)), v(0)))
		}
		list = append(list, drop(boxed(c.x), at(1)))
		for _, k := range c.print {
			list = append(list, alloc(0, 1), show(v(0)))
			c.print[slices.Index(c.print, k)] = heap.Base + 16*k
		}
		comes(t, c.what, api.OutExit, 0, c.print, items, starts([]int{1, 120}, list...))
	}
	for _, x := range of(array(math.MaxInt, named("Some")), array(3000, named("Perhaps")), named("Farther"), array(129, boxed(u8))) {
		comes(t, "what is longer than memory", api.OutTrap, 0, nil, items, starts([]int{1}, alloc(0, 128), store(at(0, held()), n(1)), drop(boxed(x), at(0)), show(n(1))))
	}
}

// Very many types in one another.
func TestDeepTypes(t *testing.T) {
	x, y := u8, boxed(boxed(u8))
	for k := range 1 << 16 {
		x = boxed(x)
		if k < 500 {
			y = array(1, y)
		}
	}
	out := elaborated(t, nil, []api.Mir{starts([]int{1}, drop(x, at(0)), show(n(1)))})
	if len(out) != 1<<16 {
		t.Errorf("%d functions", len(out))
	}
	if o, _ := mir.Run(nil, out, nil, plenty); o.Kind != api.OutTrap {
		t.Error(o)
	}
	comes(t, "arrays in arrays", api.OutExit, 0, []int{1}, nil, starts([]int{1, 1}, alloc(0, 1), alloc(1, 1), store(at(0, held()), v(1)), drop(y, at(0)), show(n(1))))
}

func TestHeldValues(t *testing.T) {
	pair := named("Pair")
	for _, c := range []struct {
		what  string
		list  []api.Instr
		still []int
	}{
		{"at first it holds none", []api.Instr{empty(pair, value)}, []int{0, 1}},
		{"given, and cleared twice", []api.Instr{give(value), empty(pair, value), empty(pair, value)}, nil},
		{"given and taken", []api.Instr{give(value), take(value), empty(pair, value)}, []int{0, 1}},
		{"taken and given", []api.Instr{take(value), give(value), give(value), empty(pair, value)}, nil},
		{"a clear of another type is one too", []api.Instr{give(value), drop(pair, at(value)), empty(u8, value), empty(pair, value)}, nil},
		{"others hold one", []api.Instr{give(1), give(0), empty(pair, value)}, []int{0, 1}},
	} {
		h := &house{}
		h.box(at(value))
		h.box(at(value, step(2)))
		h.add(c.list...)
		h.left(t, c.what, c.still...)
	}
}

// What a local holds is each call's own.
func TestHeldByCalls(t *testing.T) {
	box := boxed(u8)
	comes(t, "calls", api.OutExit, 0, []int{heap.Base + 32, heap.Base, heap.Base + 48}, nil,
		starts([]int{1, 1}, alloc(0, 1), give(0), alloc(1, 1), calls(nil, "f", v(1), n(1)), empty(box, 0), alloc(0, 1), show(v(0)), alloc(0, 1), show(v(0))),
		fn("f", []int{1, 1, 1}, 2, 0,
			block(branch(v(1), 1, 2), empty(box, 0)),
			block(answer(), give(0), calls(nil, "f", v(0), n(0)), take(0), alloc(2, 1), show(v(2))),
			block(answer(), empty(box, 0))))
	comes(t, "a local of no words", api.OutExit, 0, []int{1}, nil, starts([]int{0}, give(0), empty(ty(api.TyUnit), 0), take(0), show(n(1))))
	// What owns nothing is let go, and then none is held.
	comes(t, "cleared as what owns nothing", api.OutExit, 0, []int{heap.Base, heap.Base + 16}, nil,
		fn("main", []int{1, 1}, 0, 0, block(branch(v(1), 1, 2), alloc(0, 1), give(0), show(v(0))), block(jump(2), take(0)), block(branch(v(1), 3, 4), empty(u8, 0)), block(jump(4), give(0)), block(answer(), empty(box, 0), alloc(0, 1), show(v(0)))))
	// Of a call that holds a value on some ways, again and again, one with it and one without.
	comes(t, "on some ways", api.OutExit, 0, []int{heap.Base, heap.Base + 16, heap.Base + 32}, nil,
		starts([]int{1}, calls(nil, "f", n(1)), calls(nil, "f", n(0)), calls(nil, "f", n(1)), alloc(0, 1), show(v(0))),
		fn("f", []int{1, 1}, 1, 0, block(branch(v(0), 1, 2), alloc(1, 1), give(1)), block(jump(2), show(v(1)), take(1), set(0, n(5))), block(branch(v(0), 3, 4), empty(box, 1)), block(answer(), empty(box, 1)), block(answer(), empty(box, 1))))
}

// An OpClear within a loop: the value is there at some turns.
func TestClearedInLoops(t *testing.T) {
	box := boxed(boxed(u8))
	f := fn("main", []int{1, 1, 1}, 0, 0,
		block(branch(v(0), 1, 3), read(0)),
		block(branch(v(2), 2, 0), empty(box, 1), bin(2, v(0), "and", n(1))),
		block(jump(0), alloc(1, 1), alloc(2, 1), store(at(1, held()), v(2)), give(1), show(v(1))),
		block(answer(), empty(box, 1), alloc(1, 1), show(v(1))))
	for _, input := range [][]int{nil, {1}, {2}, {1, 1}, {2, 1, 2}, {1, 2, 1}, {1, 1, 2, 2, 1, 1, 1}, slices.Repeat([]int{1, 2, 3, 1}, 60)} {
		wantAgree(t, nil, []api.Mir{f}, input)
	}
	out := elaborated(t, nil, []api.Mir{f})
	if len(out) != 2 || len(out[0].Locals) != 4 {
		t.Errorf("%d functions, locals %v", len(out), out[0].Locals)
	}
}
