package lower

import (
	"math/bits"

	"ferrule/api"
	"ferrule/layout"
)

// address is so many bytes behind what a register says, or behind the frame's beginning.
type address struct{ base, far int }

// place tells where a place is.
func (m *lowering) place(p *api.Place) address {
	at, steps := address{api.RegFrame, m.at[p.Local]}, p.Steps
	if m.isPlain(p.Local) { // its first step is what its word points to
		at, steps = address{m.register(p.Local), 0}, steps[1:]
	}
	for _, s := range steps {
		switch s.Kind {
		case api.StAdd:
			at.far += wordBytes * s.N
		case api.StIndex:
			at = m.element(at, s)
		case api.StHeld:
			held := m.fresh()
			m.loadAt(held, m.within(at, 1), 0)
			at = address{held, 0}
		}
	}
	return at
}

// element goes on from an address as far as an index says.
func (m *lowering) element(at address, s api.Step) address {
	if s.Size == 0 {
		return at
	}
	return m.onBy(at, m.times(m.word(api.Operand{N: s.N}), wordBytes*s.Size))
}

// times is a register's word, so many times.
func (m *lowering) times(reg, n int) int {
	out := m.fresh()
	if n&(n-1) == 0 {
		m.add(api.Low{Op: api.LoImm, D: out, A: reg, Text: "sll", N: bits.TrailingZeros(uint(n))})
	} else {
		m.add(api.Low{Op: api.LoBin, D: out, A: reg, Text: "mul", B: m.number(n)})
	}
	return out
}

// onBy goes on from an address by a register's word.
func (m *lowering) onBy(at address, reg int) address {
	at = m.inRegister(at)
	out := m.fresh()
	m.add(api.Low{Op: api.LoBin, D: out, A: at.base, Text: "add", B: reg})
	return address{out, at.far}
}

// inRegister tells an address by a register, as an operation of two registers needs it.
func (m *lowering) inRegister(at address) address {
	if at.base != api.RegFrame {
		return at
	}
	reg, near := m.fresh(), 0
	if layout.Fits(at.far, false) {
		near = at.far
	}
	m.add(api.Low{Op: api.LoImm, D: reg, A: api.RegFrame, Text: "add", N: near})
	return address{reg, at.far - near}
}

// within tells an address so that instructions reach it, and all words behind it up to so many.
func (m *lowering) within(at address, words int) address {
	if !layout.Fits(at.far, false) {
		upper, lower := layout.Split(at.far)
		at = m.onBy(address{at.base, 0}, m.number(upper<<12))
		at.far = lower
	}
	if !layout.Fits(at.far+wordBytes*(words-1), false) {
		reg := m.fresh()
		m.addAddress(reg, at)
		at = address{reg, 0}
	}
	return at
}

// addAddress brings an address that instructions reach into a register.
func (m *lowering) addAddress(reg int, at address) {
	if at.base != api.RegFrame && at.far == 0 {
		m.add(api.Low{Op: api.LoMv, D: reg, A: at.base})
		return
	}
	m.add(api.Low{Op: api.LoImm, D: reg, A: at.base, Text: "add", N: at.far})
}

// loadAt loads a word so many bytes behind an address.
func (m *lowering) loadAt(reg int, at address, bytes int) {
	m.add(api.Low{Op: api.LoLw, D: reg, A: at.base, N: at.far + bytes})
}

// storeAt stores a word so many bytes behind an address.
func (m *lowering) storeAt(reg int, at address, bytes int) {
	m.add(api.Low{Op: api.LoSw, A: at.base, N: at.far + bytes, B: reg})
}
