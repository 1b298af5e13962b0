package fold_test

import (
	"math/rand"

	"ferrule/api"
)

// Functions of the middle form that are made by chance.

// The locals that all functions made by chance have: the first three may be params.
const (
	anyNumber  = 0
	anyAddress = 1
	twoWords   = 2
	numbers    = 3 // and five more; an address may reach the first one
	addresses  = 9 // and one more
	threeWords = 11
	fourWords  = 12
	aBox       = 13
	noWords    = 14
)

func mixedLocals() []int { return []int{1, 1, 2, 1, 1, 1, 1, 1, 1, 1, 1, 3, 4, 1, 0} }

// mixer makes functions by chance: most of what they do makes sense, some does not.
type mixer struct {
	*rand.Rand
	heads []api.Mir
	list  []api.Instr
	holds bool // there are operations that say what locals hold
}

func (m *mixer) often(times int) bool { return m.Intn(times) == 0 }

func (m *mixer) one(list ...int) int { return list[m.Intn(len(list))] }

func (m *mixer) number() int { return m.one(anyNumber, numbers+m.Intn(6), numbers+m.Intn(6)) }

func (m *mixer) address() int { return m.one(anyAddress, addresses, addresses+1) }

func (m *mixer) scalar() int {
	if m.often(20) {
		return m.one(m.address(), aBox)
	}
	return m.number()
}

func (m *mixer) operand() api.Operand {
	if m.often(2) {
		return n(m.one(0, 1, 2, 3, -1, 5, 1<<31, 1<<32+2, 1<<32, m.Intn(100)))
	}
	return v(m.scalar())
}

// masked lets a scalar be an index that is mostly within its array, and never so far on that it comes to another local.
func (m *mixer) masked() int {
	k := m.number()
	m.add(bin(k, v(k), "and", n(m.one(1, 1, 1, 1, 1, 1, 15))))
	return k
}

func (m *mixer) add(list ...api.Instr) { m.list = append(m.list, list...) }

// place makes one, of a local or through an address.
func (m *mixer) place() api.Place {
	local := m.one(twoWords, threeWords, fourWords, threeWords, fourWords, numbers)
	if m.often(60) {
		local = m.Intn(15)
	}
	var steps []api.Step
	if m.often(3) {
		local = m.address()
		steps = append(steps, held())
	}
	switch m.Intn(4) {
	case 0:
		steps = append(steps, step(m.one(0, 1, 1, 2, 3, 0)))
	case 1:
		steps = append(steps, times(m.masked(), m.one(1, 1, 2, 0)))
	}
	if m.often(30) {
		steps = append(steps, held())
	}
	return api.Place{Local: local, Steps: steps}
}

func (m *mixer) sign() string {
	return []string{"add", "sub", "mul", "mulh", "mulhu", "and", "or", "xor", "slt", "sltu", "sll", "srl", "sra", "div", "divu", "rem", "remu"}[m.Intn(17)]
}

// words does something with numbers and places.
func (m *mixer) words() {
	switch m.Intn(14) {
	case 0, 1, 2:
		m.add(set(m.number(), m.operand()))
	case 3, 4, 5:
		m.add(bin(m.number(), m.operand(), m.sign(), m.operand()))
	case 6:
		p := m.place()
		m.add(load(m.scalar(), p))
	case 7:
		p := m.place()
		m.add(store(p, m.operand()))
	case 8:
		p, q := m.place(), m.place()
		m.add(move(m.one(0, 1, 2, 2, 3), p, q))
	case 9, 10:
		p := m.place()
		m.add(addr(m.address(), p))
	case 11, 12:
		m.add(api.Instr{Op: api.OpPrint, A: m.operand(), N: m.one(0, 1)})
	case 13:
		m.add(read(m.number()))
	}
}

// blocks does something with blocks and what lies in them.
func (m *mixer) blocks() {
	k := m.address()
	switch m.Intn(9) {
	case 0, 1, 2:
		m.add(alloc(k, m.one(0, 1, 2, 3, 4, 5, 100)))
	case 3, 4:
		m.add(alloc(k, 3), store(at(k, held(), step(m.Intn(3))), m.operand()))
	case 5:
		m.add(alloc(k, 2), free(v(k)))
	case 6:
		m.add(free(v(k)))
	case 7:
		m.add(set(m.address(), v(k)))
	case 8:
		m.add(alloc(aBox, 1), drop(boxed(u8), at(aBox)))
	}
}

// called calls a function, by numbers and addresses where it has such params.
func (m *mixer) called() {
	f := m.heads[m.Intn(len(m.heads))]
	args := []api.Operand{m.operand(), v(m.address()), m.operand(), m.operand()}
	var dsts []int
	for range f.Answers {
		dsts = append(dsts, m.number())
	}
	m.add(calls(dsts, f.Name, args[:min(f.Params, 2)+max(0, f.Params-2)*2]...))
}

// held says what a local holds.
func (m *mixer) held() {
	local := m.one(aBox, m.address(), m.number())
	m.add([]api.Instr{give(local), take(local), empty(boxed(u8), local), empty(u8, local)}[m.Intn(4)])
}

func (m *mixer) term(f api.Mir, blocks int) api.Term {
	switch m.Intn(14) {
	case 0, 1, 2, 3:
		return jump(m.Intn(blocks))
	case 4, 5, 6, 7:
		return branch(m.operand(), m.Intn(blocks), m.Intn(blocks))
	case 8:
		if m.often(3) {
			return fail()
		}
	}
	args := []api.Operand{m.operand(), m.operand(), m.operand()}
	return answer(args[:f.Answers]...)
}

func (m *mixer) block(f api.Mir, blocks int) api.Block {
	m.list = nil
	for range m.one(0, 0, 1, 2, 3, 5, 8) {
		switch m.Intn(10) {
		case 0, 1, 2, 3, 4, 5, 6:
			m.words()
		case 7:
			m.blocks()
		case 8:
			m.called()
		case 9:
			m.add(show(m.operand()))
		}
		if m.holds && m.often(5) {
			m.held()
		}
	}
	end := m.term(f, blocks)
	return block(end, m.list...)
}

func mixed(seed int64) []api.Mir { return mixedBy(&mixer{Rand: rand.New(rand.NewSource(seed))}) }

func mixedBy(m *mixer) []api.Mir {
	for k := range 1 + m.Intn(3) {
		f := fn(string(rune('f'+k)), mixedLocals(), m.Intn(4), m.Intn(4))
		f.Quiet = m.often(3)
		m.heads = append(m.heads, f)
	}
	m.heads = append(m.heads, fn("main", mixedLocals(), 0, 0))
	l := append([]api.Mir{}, m.heads...)
	for k := range l {
		blocks := 1 + m.Intn(9)
		for range blocks {
			l[k].Blocks = append(l[k].Blocks, m.block(m.heads[k], blocks))
		}
	}
	return l
}
