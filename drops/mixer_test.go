package drops_test

import (
	"math/rand"

	"ferrule/api"
)

// Functions of the middle form that are made by chance.

// The locals that all functions made by chance have: the first three may be params.
const (
	anyNumber  = 0
	anyAddress = 1
	twoWords   = 2
	numbers    = 3 // and three more
	addresses  = 7 // and one more
	threeWords = 9
	fourWords  = 10
	aList      = 11
	aPair      = 12
	aBox       = 13
	noWords    = 14
)

func mixedLocals() []int { return []int{1, 1, 2, 1, 1, 1, 1, 1, 1, 3, 4, 3, 3, 1, 0} }

func mixedItems() []api.Item {
	return []api.Item{structure("Pair", boxed(u8), u8, boxed(u8)), enum("List", nil, of(u8, boxed(named("List")))), enum("Way", nil, of(boxed(array(2, boxed(u8)))))}
}

// mixer makes functions by chance: most of what they do makes sense, some does not.
type mixer struct {
	*rand.Rand
	heads []api.Mir
	list  []api.Instr
}

func (m *mixer) often(times int) bool { return m.Intn(times) == 0 }

func (m *mixer) one(list ...int) int { return list[m.Intn(len(list))] }

func (m *mixer) number() int { return m.one(anyNumber, numbers, numbers+1, numbers+2, numbers+3) }

func (m *mixer) address() int { return m.one(anyAddress, addresses, addresses+1) }

func (m *mixer) scalar() int {
	if m.often(20) {
		return m.one(m.address(), aBox)
	}
	return m.number()
}

func (m *mixer) operand() api.Operand {
	if m.often(2) {
		return n(m.one(0, 1, 2, 3, -1, 5, 1<<31, 1<<32+2, m.Intn(100)))
	}
	return v(m.scalar())
}

// masked lets a scalar be an index that is mostly within its array.
func (m *mixer) masked() int {
	k := m.number()
	if !m.often(15) {
		m.add(bin(k, v(k), "and", n(1)))
	}
	return k
}

func (m *mixer) add(list ...api.Instr) { m.list = append(m.list, list...) }

// place makes one, of a local or through an address.
func (m *mixer) place() api.Place {
	local := m.one(twoWords, threeWords, fourWords, threeWords, fourWords, numbers)
	if m.often(40) {
		local = m.Intn(15)
	}
	var steps []api.Step
	if m.often(3) {
		local = m.address()
		steps = append(steps, held())
	}
	switch m.Intn(4) {
	case 0:
		steps = append(steps, step(m.one(0, 1, 1, 2, 3, 0)))
	case 1:
		steps = append(steps, times(m.masked(), m.one(1, 1, 2, 0)))
	}
	if m.often(60) {
		steps = append(steps, held())
	}
	return api.Place{Local: local, Steps: steps}
}

func (m *mixer) sign() string {
	return []string{"add", "sub", "mul", "and", "or", "xor", "slt", "sltu", "sll", "sra", "div", "rem"}[m.Intn(12)]
}

// words does something with numbers and places.
func (m *mixer) words() {
	switch m.Intn(9) {
	case 0:
		m.add(set(m.number(), m.operand()))
	case 1, 2:
		m.add(bin(m.number(), m.operand(), m.sign(), m.operand()))
	case 3:
		p := m.place()
		m.add(load(m.scalar(), p))
	case 4:
		p := m.place()
		m.add(store(p, m.operand()))
	case 5:
		p, q := m.place(), m.place()
		m.add(move(m.one(0, 1, 2, 2, 3), p, q))
	case 6:
		p := m.place()
		m.add(addr(m.address(), p))
	case 7:
		m.add(api.Instr{Op: api.OpPrint, A: m.operand(), N: m.one(0, 1)})
	case 8:
		m.add(read(m.number()))
	}
}

// blocks does something with blocks and what lies in them.
func (m *mixer) blocks() {
	k := m.address()
	switch m.Intn(8) {
	case 0, 1, 2:
		m.add(alloc(k, m.one(0, 1, 2, 3, 4, 5, 100)))
	case 3, 4:
		m.add(alloc(k, 3), store(at(k, held(), step(m.Intn(3))), m.operand()))
	case 5:
		m.add(alloc(k, 2), free(v(k)))
	case 6:
		m.add(free(v(k)))
	case 7:
		m.add(set(m.address(), v(k)))
	}
}

// values makes a value, and holds it, takes it, or lets it go.
func (m *mixer) values() {
	k := m.address()
	node := func(p api.Place) {
		m.add(alloc(k, 3), store(p, n(1)), store(api.Place{Local: p.Local, Steps: append(append([]api.Step{}, p.Steps...), step(2))}, v(k)))
	}
	switch m.Intn(8) {
	case 0:
		m.add(alloc(aBox, 1), give(aBox))
	case 1:
		m.add(alloc(k, 1), store(at(aPair), v(k)), alloc(k, 1), store(at(aPair, step(2)), v(k)), give(aPair))
	case 2:
		node(at(aList))
		if m.often(2) {
			node(at(aList, step(2), held()))
		}
		m.add(give(aList))
	case 3:
		m.add(take(m.one(aBox, aPair, aList, noWords)))
	case 4:
		m.add(empty(boxed(ty(api.TyU8)), aBox))
	case 5:
		m.add(empty(named("Pair"), aPair))
	case 6:
		m.add(empty(named("List"), aList))
	case 7:
		m.dropped()
	}
}

// dropped lets a value go, whether there is one or not; mostly there is.
func (m *mixer) dropped() {
	switch m.Intn(6) {
	case 0:
		m.add(alloc(aBox, 1), drop(boxed(u8), at(aBox)))
	case 1:
		m.add(store(at(fourWords), n(m.one(0, 1, 2))), alloc(aBox, 2), store(at(fourWords, step(1)), v(aBox)),
			alloc(numbers, 1), store(at(aBox, held()), v(numbers)), alloc(numbers, 1), store(at(aBox, held(), step(1)), v(numbers)), drop(named("Way"), at(fourWords)))
	case 2:
		m.add(drop(ty(api.TyU8), m.place()))
	case 3:
		m.add(alloc(addresses, 3), store(at(addresses, held()), n(0)), alloc(addresses, 1), alloc(addresses+1, 2), store(at(addresses+1, held()), v(addresses)), store(at(addresses+1, held(), step(1)), v(addresses)))
		m.add(drop(boxed(array(m.one(1, 2), boxed(u8))), at(addresses+1)))
	case 4:
		m.add(store(at(threeWords), n(0)), drop(array(m.one(1, 1, 3), named("List")), at(threeWords)))
	case 5:
		if m.often(4) {
			m.add(drop([]api.Type{boxed(u8), named("Pair"), named("List"), boxed(named("List"))}[m.Intn(4)], at(m.Intn(15))))
		}
	}
}

// called calls a function, by numbers and addresses where it has such params.
func (m *mixer) called() {
	f := m.heads[m.Intn(len(m.heads))]
	args := []api.Operand{m.operand(), v(m.address()), m.operand(), m.operand()}
	var dsts []int
	for range f.Answers {
		dsts = append(dsts, m.number())
	}
	m.add(calls(dsts, f.Name, args[:min(f.Params, 2)+max(0, f.Params-2)*2]...))
}

func (m *mixer) term(f api.Mir, blocks int) api.Term {
	switch m.Intn(12) {
	case 0, 1:
		return jump(m.Intn(blocks))
	case 2, 3, 4, 5:
		return branch(m.operand(), m.Intn(blocks), m.Intn(blocks))
	case 6:
		if m.often(3) {
			return fail()
		}
	}
	args := []api.Operand{m.operand(), m.operand(), m.operand()}
	return answer(args[:f.Answers]...)
}

func (m *mixer) block(f api.Mir, blocks int) api.Block {
	m.list = nil
	for range m.Intn(8) {
		switch m.Intn(10) {
		case 0, 1, 2:
			m.words()
		case 3:
			m.blocks()
		case 4, 5, 6, 7:
			m.values()
		case 8:
			m.called()
		case 9:
			m.add(show(m.operand()))
		}
	}
	end := m.term(f, blocks)
	return block(end, m.list...)
}

func mixed(seed int64) []api.Mir {
	m := &mixer{Rand: rand.New(rand.NewSource(seed))}
	for k := range 1 + m.Intn(4) {
		f := fn(string(rune('f'+k)), mixedLocals(), m.Intn(4), m.Intn(4))
		f.Quiet = m.often(3)
		m.heads = append(m.heads, f)
	}
	m.heads = append(m.heads, fn("main", mixedLocals(), 0, 0))
	l := append([]api.Mir{}, m.heads...)
	for k := range l {
		blocks := 1 + m.Intn(5)
		for range blocks {
			l[k].Blocks = append(l[k].Blocks, m.block(m.heads[k], blocks))
		}
	}
	return l
}
