package asm_test

import (
	"math"
	"slices"
	"testing"

	"ferrule/api"
	"ferrule/asm"
	"ferrule/insn"
)

// wantWords asks for just these words.
func wantWords(t *testing.T, l []api.Asm, want ...uint32) {
	t.Helper()
	taken(t, l)
	if w, e := asm.Assemble(l); e != api.OK || !slices.Equal(w, want) {
		t.Fatalf("%s: %#08x, %d, not %#08x", short(l), w, int(e), want)
	}
}

// P23.2: words that another assembler makes of lines of every kind.
func TestKnownWords(t *testing.T) {
	wantWords(t, []api.Asm{
		label("top"),
		do(api.Insn{Op: "addi", Rd: 5, Imm: 10}),
		label("loop"),
		branch("beq", 5, 0, "end"),
		jump(1, "sub"),
		do(api.Insn{Op: "addi", Rd: 5, Rs1: 5, Imm: -1}),
		branch("bne", 5, 6, "loop"),
		pad(2),
		jump(0, "loop"),
		label("end"),
		do(api.Insn{Op: "ecall"}),
		label("sub"),
		branch("bltu", 10, 11, "top"),
		branch("bgeu", 10, 11, "out"),
		branch("blt", 12, 13, "end"),
		branch("bge", 31, 30, "sub"),
		do(api.Insn{Op: "jalr", Rs1: 1}),
		label("out"),
	},
		0x00a00293, 0x00028e63, 0x01c000ef, 0xfff28293, 0xfe629ae3, 0x00000013, 0x00000013, 0xfe9ff06f,
		0x00000073, 0xfcb56ee3, 0x00b57863, 0xfed64ae3, 0xffefdae3, 0x00008067)
}

// P23.2: words that another assembler makes of branches that are too far, each of the six, both ways.
func TestKnownLongWords(t *testing.T) {
	six := []api.Asm{
		branch("beq", 1, 2, "far"), branch("bne", 3, 4, "far"), branch("blt", 5, 6, "far"),
		branch("bge", 7, 8, "far"), branch("bltu", 9, 10, "far"), branch("bgeu", 11, 12, "far"),
	}
	over := slices.Repeat([]uint32{0x00000013}, 2200)
	wantWords(t, slices.Concat(six, []api.Asm{pad(1100), label("far"), pad(1100)}, six), slices.Concat([]uint32{
		0x00209463, 0x15c0106f, 0x00418463, 0x1540106f, 0x0062d463, 0x14c0106f,
		0x0083c463, 0x1440106f, 0x00a4f463, 0x13c0106f, 0x00c5e463, 0x1340106f,
	}, over, []uint32{
		0x00209463, 0xecdfe06f, 0x00418463, 0xec5fe06f, 0x0062d463, 0xebdfe06f,
		0x0083c463, 0xeb5fe06f, 0x00a4f463, 0xeadfe06f, 0x00c5e463, 0xea5fe06f,
	})...)
}

// P23.2: each of the six, with registers of all numbers, short and long, both ways: the short one is its own word, the long one its opposite's with 8.
func TestBranches(t *testing.T) {
	encode := func(op string, rs1, rs2, way int) uint32 {
		w, _ := insn.Encode(api.Insn{Op: op, Rs1: rs1, Rs2: rs2, Imm: way})
		return w
	}
	jal := func(way int) uint32 {
		w, _ := insn.Encode(api.Insn{Op: "jal", Imm: way})
		return w
	}
	for op, other := range opposites() {
		for rs1 := range 32 {
			rs2 := (rs1*7 + 3) % 32
			b := branch(op, rs1, rs2, "x")
			wantWords(t, []api.Asm{label("x"), b}, encode(op, rs1, rs2, 0))
			wantWords(t, []api.Asm{b, label("x")}, encode(op, rs1, rs2, 4))
			wantWords(t, []api.Asm{b, pad(1), label("x")}, encode(op, rs1, rs2, 8), 0x13)
			wantWords(t, []api.Asm{label("x"), pad(1), b}, 0x13, encode(op, rs1, rs2, -4))
			over := slices.Repeat([]uint32{0x13}, 1025)
			wantWords(t, []api.Asm{b, pad(1025), label("x")}, slices.Concat([]uint32{encode(other, rs1, rs2, 8), jal(4104)}, over)...)
			wantWords(t, []api.Asm{label("x"), pad(1025), b}, slices.Concat(over, []uint32{encode(other, rs1, rs2, 8), jal(-4104)})...)
		}
	}
}

// P23.2: jumps of each register, near and as far as an image lets them go, both ways.
func TestJumps(t *testing.T) {
	for rd := range 32 {
		to := uint32(rd) << 7
		wantWords(t, []api.Asm{label("x"), jump(rd, "x")}, 0x0000006f|to)
		wantWords(t, []api.Asm{jump(rd, "x"), label("x")}, 0x0040006f|to)
		wantWords(t, []api.Asm{label("x"), pad(1), jump(rd, "x")}, 0x13, 0xffdff06f|to)
	}
	w, e := asm.Assemble([]api.Asm{jump(1, "x"), pad(16383), label("x")})
	if e != api.OK || len(w) != 16384 || w[0] != 0x000100ef {
		t.Errorf("%d words, %d", len(w), int(e))
	}
	w, e = asm.Assemble([]api.Asm{label("x"), pad(16383), jump(1, "x")})
	if e != api.OK || len(w) != 16384 || w[16383] != 0x804f00ef {
		t.Errorf("%d words, %d: %#x", len(w), int(e), w[len(w)-1])
	}
	for n := 1; n <= 16384; n *= 2 {
		taken(t, []api.Asm{jump(5, "x"), pad(n - 1), label("x")})
		taken(t, []api.Asm{label("x"), pad(n - 1), jump(5, "x")})
	}
}

// P23.2: pads, of which those below 0 are none.
func TestPadWords(t *testing.T) {
	for _, n := range []int{math.MinInt, -1, 0, 1, 2, 3, 1000, 16384} {
		want := slices.Repeat([]uint32{0x00000013}, max(n, 0))
		wantWords(t, []api.Asm{pad(n)}, want...)
	}
	wantWords(t, []api.Asm{pad(1), do(api.Insn{Op: "ebreak"}), pad(-1), do(api.Insn{Op: "ecall"}), pad(2)}, 0x13, 0x00100073, 0x00000073, 0x13, 0x13)
}

// P23.2: every instruction that Encode takes is its own word, also jumps and branches that are told as AsInsn, wherever they go.
func TestInstructions(t *testing.T) {
	var l []api.Asm
	var want []uint32
	for _, i := range []api.Insn{
		{Op: "lui", Rd: 1, Imm: 0xfffff}, {Op: "auipc", Rd: 31}, {Op: "jal", Rd: 1, Imm: -1 << 20}, {Op: "jal", Imm: 1<<20 - 2},
		{Op: "jalr", Rd: 1, Rs1: 2, Imm: -2048}, {Op: "beq", Rs1: 1, Rs2: 2, Imm: 4094}, {Op: "bgeu", Rs1: 31, Rs2: 31, Imm: -4096},
		{Op: "lb", Rd: 3, Rs1: 4, Imm: 2047}, {Op: "sw", Rs1: 5, Rs2: 6, Imm: -1}, {Op: "addi"}, {Op: "srai", Rd: 7, Rs1: 8, Imm: 31},
		{Op: "sub", Rd: 9, Rs1: 10, Rs2: 11}, {Op: "remu", Rd: 12, Rs1: 13, Rs2: 14}, {Op: "ecall"}, {Op: "ebreak"},
	} {
		w, ok := insn.Encode(i)
		if !ok {
			t.Fatal(i)
		}
		wantWords(t, []api.Asm{do(i)}, w)
		l, want = append(l, do(i)), append(want, w)
	}
	wantWords(t, l, want...)
}

// P23.1, P23.2: what a kind does not use does not matter: an Imm of a branch or a jump, an instruction of a label or a pad, a label or an N of what has none.
func TestUnused(t *testing.T) {
	odd := api.Insn{Op: "none", Rd: -1, Rs1: 99, Rs2: math.MaxInt, Imm: math.MinInt}
	plain := []api.Asm{label("x"), do(api.Insn{Op: "ecall"}), pad(2), beq("x"), beq("y"), jump(3, "x"), jump(4, "y"), pad(1100), label("y")}
	want, e := asm.Assemble(plain)
	if e != api.OK {
		t.Fatal(int(e))
	}
	for _, imm := range []int{0, 1, 3, 4, -1, 5000, math.MinInt, math.MaxInt} {
		for _, n := range []int{0, 7, -7, 1 << 20, math.MaxInt, math.MinInt} {
			l := slices.Clone(plain)
			for k := range l {
				switch l[k].Kind {
				case api.AsInsn:
					l[k].Label, l[k].N = "none", n
				case api.AsLabel:
					l[k].Insn, l[k].N = odd, n
				case api.AsPad:
					l[k].Insn, l[k].Label = odd, "x"
				default:
					l[k].Insn.Imm, l[k].N = imm, n
				}
			}
			wantWords(t, l, want...)
		}
	}
}
