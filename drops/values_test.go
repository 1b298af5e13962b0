package drops_test

import (
	"math/rand"
	"testing"

	"ferrule/api"
	"ferrule/mir"
	"ferrule/types"
)

// Values of types made by chance are made in the middle form, and let go.

// crafter makes types, and instructions that make values of them: its local 0 is for numbers, 1 and those behind it are addresses, one for each Box around what is made.
type crafter struct {
	*rand.Rand
	items []api.Item
	list  []api.Instr
	left  [4]int // how many blocks of each class there may still be
}

const deepest = 12 // Boxes in one another

func (c *crafter) typ(deep int) api.Type {
	switch k := c.Intn(10); {
	case k < 2 || deep > 3:
		return []api.Type{u8, ty(api.TyI32), ty(api.TyUnit), ty(api.TyBool), ty(api.TyRef, boxed(u8))}[c.Intn(5)]
	case k < 5:
		return boxed(c.typ(deep + 1))
	case k < 7:
		return array(c.Intn(4), c.typ(deep+1))
	}
	return named(string(rune('A' + c.Intn(6))))
}

func (c *crafter) makeItems() {
	for k := range 6 {
		name := string(rune('A' + k))
		if c.Intn(2) == 0 {
			var fields []api.Type
			for range c.Intn(4) {
				fields = append(fields, c.typ(0))
			}
			c.items = append(c.items, structure(name, fields...))
			continue
		}
		var variants [][]api.Type
		for range 1 + c.Intn(6) {
			var parts []api.Type
			for range c.Intn(3) {
				parts = append(parts, c.typ(0))
			}
			variants = append(variants, parts)
		}
		c.items = append(c.items, enum(name, variants...))
	}
}

// block takes one for so many words, if there is one left.
func (c *crafter) block(words int) bool {
	for class, most := range []int{4, 16, 64, 128} {
		if words <= most {
			c.left[class]--
			return c.left[class] >= 0
		}
	}
	return false
}

// value makes one of a type at a place; false: there is no room for it.
func (c *crafter) value(x api.Type, p api.Place, boxes int) bool {
	switch x.Kind {
	case api.TyUnit:
		return true
	case api.TyArray:
		words, _ := types.Words(c.items, x.Elem[0])
		for k := range x.N {
			if !c.value(x.Elem[0], onward(p, k*words), boxes) {
				return false
			}
		}
		return true
	case api.TyNamed:
		return c.named(c.items[x.Name[0]-'A'], p, boxes)
	case api.TyBox:
		words, sized := types.Words(c.items, x.Elem[0])
		if !sized || boxes == deepest || !c.block(words) {
			return false
		}
		c.list = append(c.list, alloc(1+boxes, words), store(p, v(1+boxes)))
		return c.value(x.Elem[0], at(1+boxes, held()), boxes+1)
	}
	c.list = append(c.list, store(p, n(c.Intn(3))))
	return true
}

func onward(p api.Place, words int) api.Place {
	return at(p.Local, append(append([]api.Step{}, p.Steps...), step(words))...)
}

func (c *crafter) named(it api.Item, p api.Place, boxes int) bool {
	var list []api.Type
	for _, f := range it.Params {
		list = append(list, f.Type)
	}
	ahead := 0
	if it.Kind == api.ItEnum {
		which := c.Intn(len(it.Variants))
		c.list = append(c.list, store(p, n(which)))
		list, ahead = it.Variants[which].Types, 1
	}
	for _, x := range list {
		if !c.value(x, onward(p, ahead), boxes) {
			return false
		}
		words, _ := types.Words(c.items, x)
		ahead += words
	}
	return true
}

func TestValuesByChance(t *testing.T) {
	made, boxes := 0, 0
	for seed := range int64(8000) {
		c := &crafter{Rand: rand.New(rand.NewSource(seed)), left: [4]int{64, 32, 16, 8}}
		c.makeItems()
		x := c.typ(0)
		words, sized := types.Words(c.items, x)
		value := 1 + deepest
		if !sized || words == 0 || !c.value(x, at(value, step(0)), 0) {
			continue
		}
		made++
		boxes += 120 - c.left[0] - c.left[1] - c.left[2] - c.left[3]
		locals := append(append([]int{1}, make([]int, deepest)...), words)
		for k := range deepest {
			locals[1+k] = 1
		}
		ends := []api.Instr{drop(x, at(value))}
		if seed%2 == 0 {
			ends = []api.Instr{give(value), empty(x, value), empty(x, value)}
		}
		for k := range 64 {
			ends = append(ends, alloc(0, 4))
			if k < 32 {
				ends = append(ends, alloc(0, 16))
			}
			if k < 16 {
				ends = append(ends, alloc(0, 64))
			}
			if k < 8 {
				ends = append(ends, alloc(0, 128))
			}
		}
		l := []api.Mir{starts(locals, append(append(c.list, ends...), show(n(9)))...)}
		out := elaborated(t, c.items, l)
		for _, l := range [][]api.Mir{l, out} {
			if got, _ := mir.Run(c.items, l, nil, plenty); !alike(got, api.Outcome{Kind: api.OutExit, Print: []int{9}}) {
				t.Fatalf("seed %d: %v: %v of %+v", seed, got, x, c.items)
			}
		}
		// Once more, it is let go twice.
		if c.left != [4]int{64, 32, 16, 8} {
			twice := []api.Mir{starts(locals, append(append([]api.Instr{}, c.list...), drop(x, at(value)), drop(x, at(value)))...)}
			if got, _ := mir.Run(c.items, elaborated(t, c.items, twice), nil, plenty); got.Kind != api.OutTrap {
				t.Fatalf("seed %d: twice: %v: %v of %+v", seed, got, x, c.items)
			}
		}
	}
	if made < 4000 || boxes < 6000 {
		t.Errorf("%d values, %d Boxes", made, boxes)
	}
}

// Words made by chance are let go as values of types made by chance, which need not have an end: the runs agree, whether they may go on or not.
func TestWordsByChance(t *testing.T) {
	seen := map[int]int{}
	for seed := range int64(6000) {
		c := &crafter{Rand: rand.New(rand.NewSource(seed))}
		c.makeItems()
		x := boxed(c.typ(0))
		if words, sized := types.Words(c.items, x.Elem[0]); !sized && c.Intn(4) > 0 || sized && words == 0 {
			continue
		}
		const blocks = 14
		var list []api.Instr
		for k := range blocks {
			list = append(list, alloc(0, []int{4, 4, 4, 16}[c.Intn(4)]), store(at(1, step(k)), v(0)))
		}
		// Each block is pointed to once, as long as there is one left; some are pointed to twice, or not at all.
		left := c.Perm(blocks)
		for k := range blocks {
			for at0 := range 4 {
				to := at(1, step(k), held(), step(at0))
				switch {
				case len(left) > 0 && c.Intn(2) == 0:
					list = append(list, load(0, at(1, step(left[0]))), store(to, v(0)))
					left = left[1:]
				case c.Intn(30) == 0:
					list = append(list, load(0, at(1, step(c.Intn(blocks)))), store(to, v(0)))
				default:
					list = append(list, store(to, n(c.Intn(4))))
				}
			}
		}
		list = append(list, show(n(1)), drop(x, at(1)))
		for range 8 {
			list = append(list, alloc(0, 4), show(v(0)), alloc(0, 16), show(v(0)))
		}
		l := []api.Mir{starts([]int{1, blocks}, list...)}
		out := elaborated(t, c.items, l)
		want, _ := mir.Run(c.items, l, nil, plenty)
		if got, _ := mir.Run(c.items, out, nil, plenty); !alike(got, want) {
			t.Fatalf("seed %d: %v, not %v: %v of %+v", seed, got, want, x, c.items)
		}
		seen[want.Kind]++
	}
	if seen[api.OutExit] < 1000 || seen[api.OutTrap] < 300 {
		t.Error(seen)
	}
}
