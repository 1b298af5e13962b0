package asm_test

import (
	"math"
	"slices"
	"testing"

	"ferrule/api"
)

// good is lines that nothing is against.
func good() []api.Asm {
	return []api.Asm{label("x"), do(api.Insn{Op: "ecall"}), beq("y"), pad(3), jump(1, "x"), beq("x"), label("y")}
}

// among asks for a fault of lines at each place among good ones, and of these lines in either order.
func among(t *testing.T, e api.Errno, wrong ...api.Asm) {
	t.Helper()
	back := slices.Clone(wrong)
	slices.Reverse(back)
	for _, w := range [][]api.Asm{wrong, back} {
		for at := range len(good()) + 1 {
			l := slices.Insert(good(), at, w...)
			refused(t, l, e)
			byWords(t, l)
			if last := len(w) - 1; last > 0 {
				l = append(slices.Insert(good(), at, w[:last]...), w[last])
				refused(t, l, e)
				byWords(t, l)
			}
		}
	}
}

// P23.1: lines of a Kind that there is not, whatever else they have.
func TestKinds(t *testing.T) {
	taken(t, good())
	for _, kind := range []int{0, 6, 7, -1, -5, 15, 1<<8 + 1, 1<<16 + 1, 1<<32 + 1, 1<<32 + 5, -1<<32 + 1, math.MinInt, math.MinInt + 1, math.MaxInt} {
		refused(t, []api.Asm{{Kind: kind}}, api.ErrForm)
		for _, line := range append(good(), api.Asm{}) {
			line.Kind = kind
			refused(t, []api.Asm{line}, api.ErrForm)
			among(t, api.ErrForm, line)
		}
	}
}

// P23.1: labels of one name, and labels that none has.
func TestWrongLabels(t *testing.T) {
	for _, name := range []string{"x", "y"} {
		among(t, api.ErrLabel, label(name))
	}
	for _, name := range []string{"", "z", "a longer one", "\x00", "\xff"} {
		among(t, api.ErrLabel, label(name), label(name))
		among(t, api.ErrLabel, label(name), label(name), beq(name))
		refused(t, []api.Asm{label(name), label(name)}, api.ErrLabel)
		refused(t, []api.Asm{label(name), pad(100), label(name)}, api.ErrLabel)
		refused(t, []api.Asm{label(name), label("other"), label(name), jump(1, name)}, api.ErrLabel)
	}
	for _, name := range []string{"", "z", "X", "x ", " x", "xx", "y\x00", "main", "0"} {
		among(t, api.ErrLabel, beq(name))
		among(t, api.ErrLabel, jump(1, name))
		refused(t, []api.Asm{beq(name)}, api.ErrLabel)
		refused(t, []api.Asm{jump(0, name)}, api.ErrLabel)
		taken(t, []api.Asm{beq(name), label(name)})
		taken(t, []api.Asm{label(name), jump(0, name)})
	}
	// A Label of another kind of line is no label.
	for _, line := range []api.Asm{{Kind: api.AsPad, Label: "z"}, {Kind: api.AsInsn, Insn: api.Insn{Op: "ecall"}, Label: "z"}, {Kind: api.AsJump, Insn: api.Insn{Op: "jal"}, Label: "z"}} {
		among(t, api.ErrLabel, line, beq("z"))
	}
}

// P23.1: instructions that Encode refuses, and of branches and jumps those that are none.
func TestIllegal(t *testing.T) {
	for _, i := range []api.Insn{
		{}, {Op: "nop"}, {Op: "ADDI"}, {Op: "addi "}, {Op: "fence"},
		{Op: "addi", Imm: 2048}, {Op: "addi", Imm: -2049}, {Op: "addi", Rd: 32}, {Op: "addi", Rd: -1}, {Op: "addi", Rs1: 32}, {Op: "addi", Rs2: 1},
		{Op: "lui", Imm: -1}, {Op: "lui", Imm: 1 << 20}, {Op: "jal", Imm: 1}, {Op: "jal", Imm: 1 << 20}, {Op: "beq", Imm: 3}, {Op: "beq", Imm: 4096}, {Op: "beq", Rd: 1},
		{Op: "add", Imm: 1}, {Op: "slli", Imm: 32}, {Op: "sw", Rd: 1}, {Op: "ecall", Rd: 1}, {Op: "ebreak", Imm: 1}, {Op: "addi", Imm: math.MaxInt}, {Op: "addi", Rd: math.MinInt},
	} {
		refused(t, []api.Asm{do(i)}, api.ErrIllegal)
		among(t, api.ErrIllegal, do(i))
	}
	for _, op := range []string{"", "jal", "jalr", "addi", "add", "ecall", "BEQ", "beqz", "bgt", "ble", "bgtu", "bleu", "b", "beq ", "bequ", "lui", "sw"} {
		among(t, api.ErrIllegal, branch(op, 0, 0, "x"))
		among(t, api.ErrIllegal, branch(op, 1, 2, "x"))
		refused(t, []api.Asm{branch(op, 0, 0, "x"), label("x")}, api.ErrIllegal)
		line := jump(0, "x")
		if op == "jal" {
			line.Insn.Op = "beq"
		} else {
			line.Insn.Op = op
		}
		among(t, api.ErrIllegal, line)
		line.Insn.Rd = 1
		among(t, api.ErrIllegal, line)
	}
}

// P23.1: registers that a branch or a jump does not have, or that there are not.
func TestWrongRegisters(t *testing.T) {
	for _, n := range []int{32, 33, 64, -1, -32, 1 << 32, 1<<32 + 1, math.MinInt, math.MaxInt} {
		for op := range opposites() {
			among(t, api.ErrIllegal, branch(op, n, 1, "x"))
			among(t, api.ErrIllegal, branch(op, 1, n, "y"))
			among(t, api.ErrIllegal, api.Asm{Kind: api.AsBranch, Insn: api.Insn{Op: op, Rd: n}, Label: "x"})
		}
		among(t, api.ErrIllegal, jump(n, "x"))
	}
	for _, n := range []int{1, 2, 31} {
		among(t, api.ErrIllegal, api.Asm{Kind: api.AsBranch, Insn: api.Insn{Op: "beq", Rd: n}, Label: "x"})
		among(t, api.ErrIllegal, api.Asm{Kind: api.AsJump, Insn: api.Insn{Op: "jal", Rs1: n}, Label: "x"})
		among(t, api.ErrIllegal, api.Asm{Kind: api.AsJump, Insn: api.Insn{Op: "jal", Rs2: n}, Label: "x"})
	}
	// A fault that only the long one would not have is one too: its own Op is asked.
	far := branch("beq", 0, 32, "y")
	refused(t, slices.Insert(good(), 1, far, pad(2000)), api.ErrIllegal)
}

// fault is lines that are wrong alone, and what is told of them.
type fault struct {
	lines []api.Asm
	e     api.Errno
}

// faults are such in the chapter's order.
func faults() []fault {
	return []fault{
		{[]api.Asm{{Kind: 9}}, api.ErrForm},
		{[]api.Asm{pad(1<<20 + 1)}, api.ErrForm},
		{[]api.Asm{pad(1 << 19), pad(1 << 19), pad(1)}, api.ErrForm},
		{[]api.Asm{label("two"), label("two")}, api.ErrLabel},
		{[]api.Asm{beq("none")}, api.ErrLabel},
		{[]api.Asm{jump(0, "none")}, api.ErrLabel},
		{[]api.Asm{do(api.Insn{Op: "addi", Imm: 4000})}, api.ErrIllegal},
		{[]api.Asm{branch("jal", 0, 0, "x")}, api.ErrIllegal},
		{[]api.Asm{jump(32, "x")}, api.ErrIllegal},
		{[]api.Asm{pad(16384)}, api.ErrImage},
		{[]api.Asm{beq("end"), pad(16384 - 8), label("end")}, api.ErrImage},
	}
}

// P23.1: several faults at one time, in either order of the lines, and mixed: the first of the chapter's list.
func TestSeveralFaults(t *testing.T) {
	all := faults()
	for i, first := range all {
		among(t, first.e, first.lines...)
		for _, second := range all[i:] {
			if second.e == first.e {
				continue
			}
			refused(t, slices.Concat(good(), first.lines, second.lines), first.e)
			refused(t, slices.Concat(second.lines, good(), first.lines), first.e)
			refused(t, slices.Concat(second.lines, first.lines, good()), first.e)
			for at := range len(second.lines) + 1 {
				l := append(slices.Insert(slices.Clone(second.lines), at, first.lines...), good()...)
				refused(t, l, first.e)
				byWords(t, l)
			}
		}
	}
}

// P23.1: one line with several faults, and many faults of all kinds.
func TestAllFaults(t *testing.T) {
	line := api.Asm{Kind: api.AsBranch, Insn: api.Insn{Op: "addi", Rd: -1}, Label: "none"}
	among(t, api.ErrLabel, line)
	among(t, api.ErrForm, line, pad(1<<20+1))
	line.Kind = api.AsJump
	among(t, api.ErrLabel, line)
	line.Kind = api.AsInsn
	among(t, api.ErrIllegal, line)
	line.Kind = 0
	among(t, api.ErrForm, line)
	var l []api.Asm
	for _, f := range slices.Backward(faults()) {
		l = append(slices.Clone(f.lines), l...)
	}
	for range l {
		refused(t, l, api.ErrForm)
		l = append(l[1:len(l):len(l)], l[0])
	}
}
