package insn_test

import (
	"strconv"
	"strings"

	"ferrule/api"
)

// A plain telling of the chapter's table, bit by bit and apart from insn.

// names tells each instruction's form, and its f7, f3 and op in bits: of - it has none.
const names = `
lui    U     -       -   0110111
auipc  U     -       -   0010111
jal    J     -       -   1101111
jalr   I     -       000 1100111
lb     I     -       000 0000011
lh     I     -       001 0000011
lw     I     -       010 0000011
lbu    I     -       100 0000011
lhu    I     -       101 0000011
addi   I     -       000 0010011
slti   I     -       010 0010011
sltiu  I     -       011 0010011
xori   I     -       100 0010011
ori    I     -       110 0010011
andi   I     -       111 0010011
slli   shift 0000000 001 0010011
srli   shift 0000000 101 0010011
srai   shift 0100000 101 0010011
beq    B     -       000 1100011
bne    B     -       001 1100011
blt    B     -       100 1100011
bge    B     -       101 1100011
bltu   B     -       110 1100011
bgeu   B     -       111 1100011
sb     S     -       000 0100011
sh     S     -       001 0100011
sw     S     -       010 0100011
add    R     0000000 000 0110011
sub    R     0100000 000 0110011
sll    R     0000000 001 0110011
slt    R     0000000 010 0110011
sltu   R     0000000 011 0110011
xor    R     0000000 100 0110011
srl    R     0000000 101 0110011
sra    R     0100000 101 0110011
or     R     0000000 110 0110011
and    R     0000000 111 0110011
mul    R     0000001 000 0110011
mulh   R     0000001 001 0110011
mulhsu R     0000001 010 0110011
mulhu  R     0000001 011 0110011
div    R     0000001 100 0110011
divu   R     0000001 101 0110011
rem    R     0000001 110 0110011
remu   R     0000001 111 0110011
ecall  ecall  -      -   -
ebreak ebreak -      -   -
`

// plainForm is a form's fields from bit 31 on downwards, and its numbers: each of imm's is from least on to most, every step-th one.
type plainForm struct {
	fields            string
	least, most, step int
}

func plainForms() map[string]plainForm {
	return map[string]plainForm{
		"U":      {"imm[19:0] rd op", 0, 1048575, 1},
		"J":      {"imm[20|10:1|11|19:12] rd op", -1048576, 1048574, 2},
		"I":      {"imm[11:0] rs1 f3 rd op", -2048, 2047, 1},
		"shift":  {"f7 imm[4:0] rs1 f3 rd op", 0, 31, 1},
		"B":      {"imm[12|10:5] rs2 rs1 f3 imm[4:1|11] op", -4096, 4094, 2},
		"S":      {"imm[11:5] rs2 rs1 f3 imm[4:0] op", -2048, 2047, 1},
		"R":      {"f7 rs2 rs1 f3 rd op", 0, 0, 1},
		"ecall":  {"00000000000000000000000001110011", 0, 0, 1},
		"ebreak": {"00000000000100000000000001110011", 0, 0, 1},
	}
}

// bit is what one of a word's holds: a bit of a field, or, where the field has no name, the bit itself.
type bit struct {
	field string
	n     uint32
}

// plain is an instruction, with what each bit of its words holds, from bit 0 on.
type plain struct {
	name, form        string
	bits              [32]bit
	least, most, step int
}

// plains are all instructions.
func plains() []plain {
	forms := plainForms()
	var all []plain
	for line := range strings.Lines(strings.TrimSpace(names)) {
		is := strings.Fields(line)
		f := forms[is[1]]
		var down []bit
		for field := range strings.FieldsSeq(f.fields) {
			down = append(down, bitsOf(field, map[string]string{"f7": is[2], "f3": is[3], "op": is[4]})...)
		}
		p := plain{name: is[0], form: is[1], least: f.least, most: f.most, step: f.step}
		for i, b := range down {
			p.bits[31-i] = b
		}
		if len(down) != 32 {
			panic(is[0])
		}
		all = append(all, p)
	}
	return all
}

// bitsOf tells a field's bits, the highest one first.
func bitsOf(field string, numbers map[string]string) []bit {
	if number, is := numbers[field]; is {
		field = number
	}
	switch {
	case strings.HasPrefix(field, "imm["):
		var l []bit
		for run := range strings.SplitSeq(strings.Trim(field, "im[]"), "|") {
			first, last, many := strings.Cut(run, ":")
			if !many {
				last = first
			}
			high, _ := strconv.Atoi(first)
			low, _ := strconv.Atoi(last)
			for n := high; n >= low; n-- {
				l = append(l, bit{"imm", uint32(n)})
			}
		}
		return l
	case strings.HasPrefix(field, "r"):
		return []bit{{field, 4}, {field, 3}, {field, 2}, {field, 1}, {field, 0}}
	}
	var l []bit
	for _, c := range field {
		l = append(l, bit{n: uint32(c - '0')})
	}
	return l
}

// has tells whether the words have such a field.
func (p plain) has(field string) bool {
	for _, b := range p.bits {
		if b.field == field {
			return true
		}
	}
	return false
}

// takes tells whether an instruction of this name is one, by P22.1.
func (p plain) takes(i api.Insn) bool {
	for field, n := range map[string]int{"rd": i.Rd, "rs1": i.Rs1, "rs2": i.Rs2} {
		if n != 0 && !p.has(field) || n < 0 || n > 31 {
			return false
		}
	}
	if i.Imm != 0 && !p.has("imm") {
		return false
	}
	return i.Op == p.name && i.Imm >= p.least && i.Imm <= p.most && i.Imm%p.step == 0
}

// word puts an instruction's word together, bit by bit.
func (p plain) word(i api.Insn) uint32 {
	w := uint32(0)
	fields := map[string]int{"rd": i.Rd, "rs1": i.Rs1, "rs2": i.Rs2, "imm": i.Imm}
	for at, b := range p.bits {
		held := b.n
		if b.field != "" {
			held = uint32(fields[b.field]>>b.n) & 1
		}
		w |= held << at
	}
	return w
}

// hasWord tells whether a word is one of this instruction's.
func (p *plain) hasWord(w uint32) bool {
	for at := range p.bits {
		if p.bits[at].field == "" && w>>at&1 != p.bits[at].n {
			return false
		}
	}
	return true
}

// read tells the instruction whose word this is.
func (p *plain) read(w uint32) api.Insn {
	fields := map[string]int{}
	for at, b := range p.bits {
		fields[b.field] += int(w>>at&1) << b.n
	}
	// The highest bit of a number with a sign is taken away instead of being added.
	if p.least < 0 && fields["imm"] > p.most {
		fields["imm"] += 2 * p.least
	}
	return api.Insn{Op: p.name, Rd: fields["rd"], Rs1: fields["rs1"], Rs2: fields["rs2"], Imm: fields["imm"]}
}
