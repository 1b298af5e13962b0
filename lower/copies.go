package lower

import "ferrule/api"

const (
	few   = 8 // words that are copied without a loop
	round = 4 // words that a loop copies each time
)

// copy copies words as if all were read first: where they may lie over one another, it matters which end is begun at.
func (m *lowering) copy(in *api.Instr) {
	to := m.within(m.place(&in.P), in.N+1)
	from := m.within(m.place(&in.Q), in.N+1)
	switch {
	case to.base == from.base:
		m.copyFrom(to, from, in.N, to.far > from.far)
	case in.N <= few:
		m.copyAtOnce(to, from, in.N)
	default:
		m.copyAsAsked(to, from, in.N)
	}
}

// copyAtOnce reads all words first.
func (m *lowering) copyAtOnce(to, from address, words int) {
	var regs []int
	for k := range words {
		regs = append(regs, m.fresh())
		m.loadAt(regs[k], from, wordBytes*k)
	}
	for k, reg := range regs {
		m.storeAt(reg, to, wordBytes*k)
	}
}

// copyAsAsked asks at run time which address is the lower one.
func (m *lowering) copyAsAsked(to, from address, words int) {
	a, b := m.fresh(), m.fresh()
	m.addAddress(a, to)
	m.addAddress(b, from)
	up, down, behind := m.label(), m.label(), m.label()
	m.fork(a, "ltu", b, up, down)
	m.begin(up)
	m.copyFrom(address{a, 0}, address{b, 0}, words, false)
	m.goTo(behind)
	m.begin(down)
	m.copyFrom(address{a, 0}, address{b, 0}, words, true)
	m.goTo(behind)
	m.begin(behind)
}

// copyFrom copies word by word, from the first one up or from the last one down.
func (m *lowering) copyFrom(to, from address, words int, down bool) {
	whole := 0
	if words > few {
		whole = words - words%round
	}
	rest := func() {
		for k := range words - whole {
			if down {
				m.move(to, from, wordBytes*(words-1-k))
			} else {
				m.move(to, from, wordBytes*(whole+k))
			}
		}
	}
	if down {
		rest()
	}
	if whole > 0 {
		m.copyInRounds(to, from, wordBytes*whole, down)
	}
	if !down {
		rest()
	}
}

// copyInRounds copies by a loop, a round of words each time.
func (m *lowering) copyInRounds(to, from address, bytes int, down bool) {
	a, b, end := m.fresh(), m.fresh(), m.fresh()
	first, on := 0, wordBytes
	if down {
		to.far, from.far = to.far+bytes, from.far+bytes
		first, on, bytes = -wordBytes, -wordBytes, -bytes
	}
	m.addAddress(a, to)
	m.addAddress(b, from)
	m.addAddress(end, address{b, bytes})
	again, behind := m.label(), m.label()
	m.goTo(again)
	m.begin(again)
	for k := range round {
		m.move(address{a, 0}, address{b, 0}, first+on*k)
	}
	m.addAddress(a, address{a, on * round})
	m.addAddress(b, address{b, on * round})
	m.fork(b, "ne", end, again, behind)
	m.begin(behind)
}

// move copies the word so many bytes behind two addresses.
func (m *lowering) move(to, from address, bytes int) {
	reg := m.fresh()
	m.loadAt(reg, from, bytes)
	m.storeAt(reg, to, bytes)
}
