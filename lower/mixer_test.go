package lower_test

import (
	"math/rand"

	"ferrule/api"
)

// Functions of the middle form that are made by chance. They use no words but those of their locals and blocks, and what is an address is no number that could be told, so that it does not matter where locals lie.

// The locals that all of them have: the first four may be params.
const (
	aNumber   = 0
	anAddress = 1 // of four words at least
	twoWords  = 2
	numbers   = 3 // and five more
	addresses = 9 // and one more
	fourWords = 11
	manyWords = 12 // 40
	toMany    = 13
	twoHeld   = 14 // two addresses
	noWords   = 15
	toHeld    = 16
	sixWords  = 17
)

func mixedLocals() []int {
	return []int{1, 1, 2, 1, 1, 1, 1, 1, 1, 1, 1, 4, 40, 1, 2, 0, 1, 6}
}

type mixer struct {
	*rand.Rand
	heads []api.Mir
	list  []api.Instr
}

func (m *mixer) often(times int) bool { return m.Intn(times) == 0 }

func (m *mixer) one(list ...int) int { return list[m.Intn(len(list))] }

func (m *mixer) number() int { return m.one(aNumber, numbers+m.Intn(6), numbers+m.Intn(6)) }

func (m *mixer) address() int { return m.one(anAddress, addresses, addresses+1) }

func (m *mixer) operand() api.Operand {
	if m.often(2) {
		return n(m.one(0, 1, 2, 3, -1, 5, 31, 32, 2047, 2048, -2048, -2049, 1<<31, 1<<32+2, 1<<32, m.Intn(100)))
	}
	return v(m.number())
}

func (m *mixer) add(list ...api.Instr) { m.list = append(m.list, list...) }

// root is where so many words of numbers are, or more, and how many.
func (m *mixer) root(words int) (api.Place, int) {
	for {
		p, has := m.anyRoot()
		if has >= words {
			return p, has
		}
	}
}

func (m *mixer) anyRoot() (api.Place, int) {
	switch m.Intn(12) {
	case 0, 1:
		return at(m.address(), held()), 4
	case 2:
		return at(twoHeld, step(m.Intn(2)), held()), 4
	case 3:
		return at(toHeld, held(), step(m.Intn(2)), held()), 4
	case 4:
		return at(toMany, held()), 40
	case 5:
		return at(twoWords), 2
	case 6:
		return at(fourWords), 4
	case 7, 8:
		return at(sixWords), 6
	case 9:
		if m.often(2) {
			return at(m.number()), 1
		}
	case 10:
		if m.often(2) {
			return at(noWords), 0
		}
	}
	return at(manyWords), 40
}

// area is a place where so many words of numbers are.
func (m *mixer) area(words int) api.Place {
	p, has := m.root(words)
	room := has - words
	switch m.Intn(6) {
	case 0, 1:
		p.Steps = append(p.Steps, step(m.Intn(room+1)))
	case 2:
		k, size := m.number(), 1+m.Intn(room/2+1)
		m.add(bin(k, v(k), "and", n(m.one(0, min(room/size, 1)))))
		p.Steps = append(p.Steps, times(k, size))
	case 3: // far off, and back
		k, far := m.number(), m.one(3, 400, 511, 512, 700, 40000)
		m.add(set(k, n(m.Intn(room+1)-far)))
		p.Steps = append(p.Steps, times(k, 1), step(far))
		if last := len(p.Steps) - 1; m.often(2) {
			p.Steps[last], p.Steps[last-1] = p.Steps[last-1], p.Steps[last]
		}
	case 4:
		on := m.Intn(room + 1)
		k := m.number()
		m.add(set(k, n(room-on)))
		p.Steps = append(p.Steps, step(on), times(k, m.one(0, 1)))
	}
	return p
}

func (m *mixer) sign() string { return allOperations[m.Intn(len(allOperations))] }

// words does something with numbers and places.
func (m *mixer) words() {
	switch m.Intn(14) {
	case 0, 1, 2:
		m.add(set(m.number(), m.operand()))
	case 3, 4, 5, 6:
		m.add(bin(m.number(), m.operand(), m.sign(), m.operand()))
	case 7, 8:
		p := m.area(1)
		m.add(load(m.number(), p))
	case 9, 10:
		p := m.area(1)
		m.add(store(p, m.operand()))
	case 11, 12:
		words := m.one(0, 1, 2, 2, 3, 4, 6, 8, 9, 20, 39, 40)
		p := m.area(words)
		first := len(m.list)
		q := m.area(words)
		if sets(m.list[first:], p) { // an index of the first one may not change for the second one
			m.list, q = m.list[:first], p
		}
		m.add(move(words, p, q))
	case 13:
		m.add(api.Instr{Op: api.OpPrint, A: m.operand(), N: m.one(0, 1, 2)})
	}
}

// sets tells whether instructions set an index of a place.
func sets(list []api.Instr, p api.Place) bool {
	for _, in := range list {
		for _, s := range p.Steps {
			if s.Kind == api.StIndex && s.N == in.Dst {
				return true
			}
		}
	}
	return false
}

// pointers does something with addresses, and blocks.
func (m *mixer) pointers() {
	k := m.address()
	switch m.Intn(9) {
	case 0:
		p := m.area(4)
		m.add(addr(k, p))
	case 1:
		m.add(alloc(k, m.one(4, 4, 5, 8, 100)))
	case 2:
		m.add(store(at(twoHeld, step(m.Intn(2))), v(k)))
	case 3:
		m.add(load(k, at(toHeld, held(), step(m.Intn(2)))))
	case 4:
		m.add(set(m.address(), v(k)))
	case 5:
		m.add(alloc(k, 4), free(v(k)))
	case 6:
		if m.often(3) {
			m.add(free(v(k)))
		}
	case 7:
		m.add(alloc(toMany, m.one(40, 40, 41, 128)))
	case 8:
		m.add(addr(toMany, at(manyWords)), move(2, at(twoHeld), at(toHeld, held())))
	}
}

// called calls a function, by numbers and an address where it has such params.
func (m *mixer) called() {
	f := m.heads[m.Intn(len(m.heads))]
	args := []api.Operand{m.operand(), v(m.address()), m.operand(), m.operand(), m.operand()}
	var dsts []int
	for range f.Answers {
		dsts = append(dsts, m.number())
	}
	m.add(calls(dsts, f.Name, args[:f.Params+max(0, min(f.Params-2, 1))]...))
}

func (m *mixer) term(f api.Mir, blocks int) api.Term {
	switch m.Intn(14) {
	case 0, 1, 2:
		return jump(m.Intn(blocks))
	case 3, 4:
		return branch(m.operand(), m.Intn(blocks), m.Intn(blocks))
	case 5, 6, 7:
		k := m.number()
		m.add(bin(k, m.operand(), []string{"slt", "sltu", "xor"}[m.Intn(3)], m.operand()))
		return branch(v(k), m.Intn(blocks), m.Intn(blocks))
	case 8:
		if m.often(3) {
			return fail()
		}
	}
	args := []api.Operand{m.operand(), m.operand(), m.operand()}
	return answer(args[:f.Answers]...)
}

// begin lets addresses be of something.
func (m *mixer) begin() {
	if m.often(10) {
		return
	}
	m.add(addr(addresses, at(fourWords)), addr(addresses+1, at(sixWords, step(2))), addr(toMany, at(manyWords)), addr(toHeld, at(twoHeld)), store(at(twoHeld), v(addresses)), store(at(twoHeld, step(1)), v(addresses+1)))
}

func (m *mixer) block(f api.Mir, blocks int, first bool) api.Block {
	m.list = nil
	if first {
		m.begin()
		if f.Params < 2 {
			m.add(alloc(anAddress, 4))
		}
	}
	for range m.one(0, 0, 1, 2, 3, 5, 8) {
		switch m.Intn(10) {
		case 0, 1, 2, 3, 4, 5:
			m.words()
		case 6:
			m.pointers()
		case 7:
			m.called()
		case 8:
			m.add(show(m.operand()))
		case 9:
			m.add(read(m.number()))
		}
	}
	end := m.term(f, blocks)
	return block(end, m.list...)
}

func mixed(seed int64) []api.Mir {
	m := &mixer{Rand: rand.New(rand.NewSource(seed))}
	for k := range 1 + m.Intn(3) {
		f := fn(string(rune('f'+k)), mixedLocals(), m.Intn(5), m.Intn(4))
		f.Quiet = m.often(3)
		m.heads = append(m.heads, f)
	}
	m.heads = append(m.heads, fn("main", mixedLocals(), 0, 0))
	l := append([]api.Mir{}, m.heads...)
	for k := range l {
		blocks := 1 + m.Intn(9)
		for at := range blocks {
			l[k].Blocks = append(l[k].Blocks, m.block(m.heads[k], blocks, at == 0))
		}
	}
	return l
}
