package rvsim

import (
	"ferrule/api"
	"ferrule/insn"
)

const wordBytes = 4

// deed does what an instruction does, but for the pc, for which next is; false: it may not be done, and nothing has changed.
type deed func(m *Machine, i api.Insn) bool

// line is a word of the code: its instruction, and what that one does, nothing where no instruction has the word.
type line struct {
	insn api.Insn
	does deed
}

// lines reads all words once, as most of them are run more than once.
func lines(code []uint32) []line {
	all, known := make([]line, len(code)), deeds()
	for k, w := range code {
		if i, e := insn.Decode(w); e == api.OK {
			all[k] = line{insn: i, does: known[i.Op]}
		}
	}
	return all
}

// deeds tells what each instruction does.
func deeds() map[string]deed {
	return map[string]deed{
		"lui":    (*Machine).lui,
		"auipc":  (*Machine).auipc,
		"jal":    (*Machine).jal,
		"jalr":   (*Machine).jalr,
		"lb":     (*Machine).lb,
		"lh":     (*Machine).lh,
		"lw":     (*Machine).lw,
		"lbu":    (*Machine).lbu,
		"lhu":    (*Machine).lhu,
		"addi":   (*Machine).addi,
		"slti":   (*Machine).slti,
		"sltiu":  (*Machine).sltiu,
		"xori":   (*Machine).xori,
		"ori":    (*Machine).ori,
		"andi":   (*Machine).andi,
		"slli":   (*Machine).slli,
		"srli":   (*Machine).srli,
		"srai":   (*Machine).srai,
		"beq":    (*Machine).beq,
		"bne":    (*Machine).bne,
		"blt":    (*Machine).blt,
		"bge":    (*Machine).bge,
		"bltu":   (*Machine).bltu,
		"bgeu":   (*Machine).bgeu,
		"sb":     (*Machine).sb,
		"sh":     (*Machine).sh,
		"sw":     (*Machine).sw,
		"add":    (*Machine).ofTwo,
		"sll":    (*Machine).ofTwo,
		"slt":    (*Machine).ofTwo,
		"sltu":   (*Machine).ofTwo,
		"xor":    (*Machine).ofTwo,
		"srl":    (*Machine).ofTwo,
		"or":     (*Machine).ofTwo,
		"and":    (*Machine).ofTwo,
		"sub":    (*Machine).ofTwo,
		"sra":    (*Machine).ofTwo,
		"mul":    (*Machine).ofTwo,
		"mulh":   (*Machine).ofTwo,
		"mulhsu": (*Machine).mulhsu,
		"mulhu":  (*Machine).ofTwo,
		"div":    (*Machine).ofTwo,
		"divu":   (*Machine).ofTwo,
		"rem":    (*Machine).ofTwo,
		"remu":   (*Machine).ofTwo,
		"ecall":  (*Machine).ecall,
		"ebreak": (*Machine).ebreak,
	}
}

// run does what the instruction at the pc does; false: it may not be done, and nothing has changed.
func (m *Machine) run() bool {
	l, is := m.fetch()
	if !is {
		return false
	}
	m.next = m.pc + wordBytes
	if !l.does(m, l.insn) {
		return false
	}
	m.pc = m.next
	return true
}

// fetch tells the line at the pc, if an instruction is there.
func (m *Machine) fetch() (line, bool) {
	if m.pc%wordBytes != 0 || m.pc < 0 || m.pc/wordBytes >= len(m.code) {
		return line{}, false
	}
	l := m.code[m.pc/wordBytes]
	return l, l.does != nil
}
