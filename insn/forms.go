package insn

import "ferrule/api"

// Where the fields of a word begin, and how many bits they have.
const (
	rdAt  = 7
	f3At  = 12
	rs1At = 15
	rs2At = 20
	f7At  = 25

	opBits       = 7
	f3Bits       = 3
	f7Bits       = 7
	registerBits = 5
)

const lastRegister = 31

// The forms.
const (
	formU = iota
	formJ
	formI
	formShift
	formB
	formS
	formR
	formE
)

// form is what instructions of one have beside their own numbers: which registers, and which Imm.
type form struct {
	rd, rs1, rs2 bool
	least, most  int
	step         int // each Imm is a multiple of it
	first, last  int // the Imm's bits stand where the pieces from first on, ahead of last, tell
}

// formOf tells a form by its number.
func formOf(number uint8) form {
	switch number {
	case formU:
		return form{rd: true, most: 1<<20 - 1, step: 1, first: 0, last: 1}
	case formJ:
		return form{rd: true, least: -1 << 20, most: 1<<20 - 2, step: 2, first: 1, last: 5}
	case formI:
		return form{rd: true, rs1: true, least: -2048, most: 2047, step: 1, first: 5, last: 6}
	case formShift:
		return form{rd: true, rs1: true, most: 31, step: 1, first: 6, last: 7}
	case formB:
		return form{rs1: true, rs2: true, least: -4096, most: 4094, step: 2, first: 7, last: 11}
	case formS:
		return form{rs1: true, rs2: true, least: -2048, most: 2047, step: 1, first: 11, last: 13}
	case formR:
		return form{rd: true, rs1: true, rs2: true, step: 1}
	}
	return form{step: 1}
}

// piece is so many bits of an Imm, from one of them on, and where they stand in a word.
type piece struct{ at, from, bits uint8 }

// pieces tells where the bits of a form's Imm stand.
func (f form) pieces() []piece {
	all := []piece{
		// U
		{12, 0, 20},
		// J
		{31, 20, 1}, {21, 1, 10}, {20, 11, 1}, {12, 12, 8},
		// I
		{20, 0, 12},
		// shift
		{rs2At, 0, registerBits},
		// B
		{31, 12, 1}, {25, 5, 6}, {8, 1, 4}, {7, 11, 1},
		// S
		{25, 5, 7}, {7, 0, 5},
	}
	return all[f.first:f.last:f.last]
}

// takes tells whether the form has an instruction's registers and its Imm.
func (f form) takes(i api.Insn) bool {
	return takesRegister(f.rd, i.Rd) && takesRegister(f.rs1, i.Rs1) && takesRegister(f.rs2, i.Rs2) && f.takesImm(i.Imm)
}

// takesRegister is asked of a register that a form has, or has not.
func takesRegister(has bool, register int) bool {
	if !has {
		return register == 0
	}
	return register >= 0 && register <= lastRegister
}

func (f form) takesImm(n int) bool {
	return n >= f.least && n <= f.most && n%f.step == 0
}

// bits puts an Imm that the form takes where it stands in a word.
func (f form) bits(n int) uint32 {
	w := uint32(0)
	for _, p := range f.pieces() {
		w |= part(uint32(n), p.from, p.bits) << p.at
	}
	return w
}

// read tells the instruction of a name whose word this is.
func (f form) read(name string, w uint32) api.Insn {
	return api.Insn{
		Op:  name,
		Rd:  register(f.rd, w, rdAt),
		Rs1: register(f.rs1, w, rs1At),
		Rs2: register(f.rs2, w, rs2At),
		Imm: f.imm(w),
	}
}

// register tells one that stands in a word, if its form has it.
func register(has bool, w uint32, at uint8) int {
	if !has {
		return 0
	}
	return int(part(w, at, registerBits))
}

// imm tells the Imm that stands in a word. Where numbers are below 0 the highest bit is a sign: with it a number is less by as many as there are in the range.
func (f form) imm(w uint32) int {
	n := 0
	for _, p := range f.pieces() {
		n |= int(part(w, p.at, p.bits)) << p.from
	}
	if n > f.most {
		n -= f.most - f.least + f.step
	}
	return n
}

// part tells so many bits of a word, from one of them on.
func part(w uint32, from, bits uint8) uint32 {
	return w >> from & (1<<bits - 1)
}
