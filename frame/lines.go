package frame

import (
	"ferrule/api"
	"ferrule/layout"
)

// question is which branch asks a comparison, and which one asks whether it does not hold.
type question struct{ holds, fails string }

func questions() map[string]question {
	return map[string]question{
		"eq":  {"beq", "bne"},
		"ne":  {"bne", "beq"},
		"lt":  {"blt", "bge"},
		"ge":  {"bge", "blt"},
		"ltu": {"bltu", "bgeu"},
		"geu": {"bgeu", "bltu"},
	}
}

// inside is the instruction that has the second operand of an operation in itself.
func inside(text string) string {
	if text == "sltu" {
		return "sltiu"
	}
	return text + "i"
}

// here is where a label stands.
func (p *program) here(label string) { p.add(api.Asm{Kind: api.AsLabel, Label: label}) }

func (p *program) insn(i api.Insn) { p.add(api.Asm{Kind: api.AsInsn, Insn: i}) }

func (p *program) jump(rd int, to string) {
	p.add(api.Asm{Kind: api.AsJump, Insn: api.Insn{Op: "jal", Rd: rd}, Label: to})
}

func (p *program) branch(op string, a, b int, to string) {
	p.add(api.Asm{Kind: api.AsBranch, Insn: api.Insn{Op: op, Rs1: a, Rs2: b}, Label: to})
}

// more writes an addition of a number that fits.
func (p *program) more(rd, a, n int) {
	p.insn(api.Insn{Op: "addi", Rd: rd, Rs1: a, Imm: n})
}

func (p *program) load(rd, base, bytes int) {
	p.insn(api.Insn{Op: "lw", Rd: rd, Rs1: base, Imm: bytes})
}

func (p *program) store(base, bytes, b int) {
	p.insn(api.Insn{Op: "sw", Rs1: base, Rs2: b, Imm: bytes})
}

// number brings any number into a register.
func (p *program) number(rd, n int) {
	upper, lower := layout.Split(n)
	if upper == 0 {
		p.more(rd, zero, lower)
		return
	}
	p.insn(api.Insn{Op: "lui", Rd: rd, Imm: upper})
	if lower != 0 {
		p.more(rd, rd, lower)
	}
}

func (p *program) ecall(n int) {
	p.number(which, n)
	p.insn(api.Insn{Op: "ecall"})
}
