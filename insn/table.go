package insn

// numbers are those by which an instruction is known: its form, and what its words have in common, 0 for what the form does not have. Small types hold them, as each Encode makes a map of all.
type numbers struct {
	op           uint32
	form, f3, f7 uint8
}

// instruction is a name with its numbers.
type instruction struct {
	name    string
	numbers numbers
}

// instructions are those of RV32I without FENCE, and those of M.
func instructions() [47]instruction {
	return [...]instruction{
		{"lui", numbers{55, formU, 0, 0}},
		{"auipc", numbers{23, formU, 0, 0}},
		{"jal", numbers{111, formJ, 0, 0}},
		{"jalr", numbers{103, formI, 0, 0}},
		{"lb", numbers{3, formI, 0, 0}},
		{"lh", numbers{3, formI, 1, 0}},
		{"lw", numbers{3, formI, 2, 0}},
		{"lbu", numbers{3, formI, 4, 0}},
		{"lhu", numbers{3, formI, 5, 0}},
		{"addi", numbers{19, formI, 0, 0}},
		{"slti", numbers{19, formI, 2, 0}},
		{"sltiu", numbers{19, formI, 3, 0}},
		{"xori", numbers{19, formI, 4, 0}},
		{"ori", numbers{19, formI, 6, 0}},
		{"andi", numbers{19, formI, 7, 0}},
		{"slli", numbers{19, formShift, 1, 0}},
		{"srli", numbers{19, formShift, 5, 0}},
		{"srai", numbers{19, formShift, 5, 32}},
		{"beq", numbers{99, formB, 0, 0}},
		{"bne", numbers{99, formB, 1, 0}},
		{"blt", numbers{99, formB, 4, 0}},
		{"bge", numbers{99, formB, 5, 0}},
		{"bltu", numbers{99, formB, 6, 0}},
		{"bgeu", numbers{99, formB, 7, 0}},
		{"sb", numbers{35, formS, 0, 0}},
		{"sh", numbers{35, formS, 1, 0}},
		{"sw", numbers{35, formS, 2, 0}},
		{"add", numbers{51, formR, 0, 0}},
		{"sll", numbers{51, formR, 1, 0}},
		{"slt", numbers{51, formR, 2, 0}},
		{"sltu", numbers{51, formR, 3, 0}},
		{"xor", numbers{51, formR, 4, 0}},
		{"srl", numbers{51, formR, 5, 0}},
		{"or", numbers{51, formR, 6, 0}},
		{"and", numbers{51, formR, 7, 0}},
		{"sub", numbers{51, formR, 0, 32}},
		{"sra", numbers{51, formR, 5, 32}},
		{"mul", numbers{51, formR, 0, 1}},
		{"mulh", numbers{51, formR, 1, 1}},
		{"mulhsu", numbers{51, formR, 2, 1}},
		{"mulhu", numbers{51, formR, 3, 1}},
		{"div", numbers{51, formR, 4, 1}},
		{"divu", numbers{51, formR, 5, 1}},
		{"rem", numbers{51, formR, 6, 1}},
		{"remu", numbers{51, formR, 7, 1}},
		{"ecall", numbers{0x73, formE, 0, 0}},
		{"ebreak", numbers{0x100073, formE, 0, 0}},
	}
}

// byNames tells the instructions' numbers by their names.
func byNames() map[string]numbers {
	all := instructions()
	named := make(map[string]numbers, len(all))
	for _, in := range all {
		named[in.name] = in.numbers
	}
	return named
}

// bits puts numbers where they stand in a word.
func (n numbers) bits() uint32 {
	return n.op | uint32(n.f3)<<f3At | uint32(n.f7)<<f7At
}

// numbersIn tells what stands in a word where instructions of a form have their numbers. Those of formE have nothing else, so that the whole word is their op.
func numbersIn(w uint32, form uint8) numbers {
	n := numbers{op: part(w, 0, opBits), form: form}
	switch form {
	case formE:
		n.op = w
	case formI, formB, formS:
		n.f3 = uint8(part(w, f3At, f3Bits))
	case formShift, formR:
		n.f3, n.f7 = uint8(part(w, f3At, f3Bits)), uint8(part(w, f7At, f7Bits))
	}
	return n
}
