package rvsim

import (
	"ferrule/api"
	"ferrule/mir"
)

const stackPointer = 2

// word tells a number as one: whatever is wider goes round.
func word(n int) int { return int(int32(n)) }

// set lays a word in a register. What is set in the first one is lost.
func (m *Machine) set(register, v int) bool {
	if register != 0 {
		m.x[register] = word(v)
	}
	return true
}

// do lays in Rd what an operation of mir makes of Rs1 and a word.
func (m *Machine) do(op string, i api.Insn, b int) bool {
	v, known := mir.Do(op, m.x[i.Rs1], b)
	return known && m.set(i.Rd, v)
}

// ofTwo is each instruction of two registers that mir has an operation for, by the same name.
func (m *Machine) ofTwo(i api.Insn) bool { return m.do(i.Op, i, m.x[i.Rs2]) }

func (m *Machine) mulhsu(i api.Insn) bool {
	// A word times a number below 2^32 does not leave an int64.
	product := int64(m.x[i.Rs1]) * int64(uint32(m.x[i.Rs2]))
	return m.set(i.Rd, int(product>>32))
}

func (m *Machine) addi(i api.Insn) bool  { return m.do("add", i, i.Imm) }
func (m *Machine) slti(i api.Insn) bool  { return m.do("slt", i, i.Imm) }
func (m *Machine) sltiu(i api.Insn) bool { return m.do("sltu", i, i.Imm) }
func (m *Machine) xori(i api.Insn) bool  { return m.do("xor", i, i.Imm) }
func (m *Machine) ori(i api.Insn) bool   { return m.do("or", i, i.Imm) }
func (m *Machine) andi(i api.Insn) bool  { return m.do("and", i, i.Imm) }
func (m *Machine) slli(i api.Insn) bool  { return m.do("sll", i, i.Imm) }
func (m *Machine) srli(i api.Insn) bool  { return m.do("srl", i, i.Imm) }
func (m *Machine) srai(i api.Insn) bool  { return m.do("sra", i, i.Imm) }

func (m *Machine) lui(i api.Insn) bool   { return m.set(i.Rd, i.Imm<<12) }
func (m *Machine) auipc(i api.Insn) bool { return m.set(i.Rd, m.pc+i.Imm<<12) }

func (m *Machine) jal(i api.Insn) bool {
	return m.jump(i.Rd, m.pc+i.Imm)
}

func (m *Machine) jalr(i api.Insn) bool {
	return m.jump(i.Rd, (m.x[i.Rs1]+i.Imm)&^1)
}

// jump goes to an address, and lays in a register where it would have gone. The address is worked out ahead of that, as it may hang on the same register.
func (m *Machine) jump(register, to int) bool {
	m.set(register, m.next)
	m.next = word(to)
	return true
}

func (m *Machine) beq(i api.Insn) bool  { return m.branch(i, m.x[i.Rs1] == m.x[i.Rs2]) }
func (m *Machine) bne(i api.Insn) bool  { return m.branch(i, m.x[i.Rs1] != m.x[i.Rs2]) }
func (m *Machine) blt(i api.Insn) bool  { return m.branch(i, m.below("slt", i)) }
func (m *Machine) bge(i api.Insn) bool  { return m.branch(i, !m.below("slt", i)) }
func (m *Machine) bltu(i api.Insn) bool { return m.branch(i, m.below("sltu", i)) }
func (m *Machine) bgeu(i api.Insn) bool { return m.branch(i, !m.below("sltu", i)) }

// below tells whether Rs1 is below Rs2, as an operation of mir asks it.
func (m *Machine) below(op string, i api.Insn) bool {
	v, _ := mir.Do(op, m.x[i.Rs1], m.x[i.Rs2])
	return v == 1
}

func (m *Machine) branch(i api.Insn, holds bool) bool {
	if holds {
		m.next = m.pc + i.Imm
	}
	return true
}
