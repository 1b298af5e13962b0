package rvsim

import (
	"ferrule/api"
	"ferrule/mem"
)

func (m *Machine) lb(i api.Insn) bool  { return m.load(i, 1, true) }
func (m *Machine) lh(i api.Insn) bool  { return m.load(i, 2, true) }
func (m *Machine) lw(i api.Insn) bool  { return m.load(i, 4, true) }
func (m *Machine) lbu(i api.Insn) bool { return m.load(i, 1, false) }
func (m *Machine) lhu(i api.Insn) bool { return m.load(i, 2, false) }

func (m *Machine) sb(i api.Insn) bool { return m.store(i, 1) }
func (m *Machine) sh(i api.Insn) bool { return m.store(i, 2) }
func (m *Machine) sw(i api.Insn) bool { return m.store(i, 4) }

func (m *Machine) load(i api.Insn, bytes int, signed bool) bool {
	at := m.address(i)
	if !m.usable(at, bytes) {
		return false
	}
	v, e := m.memory.Load(at, bytes, signed)
	return e == api.OK && m.set(i.Rd, v)
}

func (m *Machine) store(i api.Insn, bytes int) bool {
	at := m.address(i)
	return m.usable(at, bytes) && m.memory.Store(at, bytes, m.x[i.Rs2]) == api.OK
}

// address tells which one a load or a store is for.
func (m *Machine) address(i api.Insn) int {
	return word(m.x[i.Rs1] + i.Imm)
}

// usable tells whether an address may be used for so many bytes.
func (m *Machine) usable(at, bytes int) bool {
	if at%bytes != 0 {
		return false
	}
	if at >= mem.Stack && at <= mem.End-bytes {
		return true
	}
	// As at is a multiple of the bytes, they all lie in one word.
	return m.heap.Within(at&^(wordBytes-1), 1)
}
