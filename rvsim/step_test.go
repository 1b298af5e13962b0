package rvsim_test

import (
	"math/rand"
	"slices"
	"strings"
	"testing"

	"ferrule/api"
	"ferrule/mem"
	"ferrule/mir"
)

// P25.2: what each instruction does.

// The instructions of two registers, and of a register and a number.
const (
	ofTwo    = "add sub sll slt sltu xor srl sra or and mul mulh mulhsu mulhu div divu rem remu"
	ofNumber = "addi slti sltiu xori ori andi slli srli srai"
	branches = "beq bne blt bge bltu bgeu"
	loads    = "lb lh lw lbu lhu"
	stores   = "sb sh sw"
)

// cases are instructions behind one another in one code, each of which is run once.
type cases struct{ list []api.Insn }

// add lays words in the registers that an instruction reads, and adds it.
func (c *cases) add(i api.Insn, a, b int) {
	c.list = append(c.list, li(i.Rs1, a)...)
	c.list = append(c.list, li(i.Rs2, b)...)
	c.list = append(c.list, i)
}

// run runs all, in as many codes as it takes, and holds every register against the plain machine's behind each.
func (c *cases) run(t *testing.T) {
	t.Helper()
	for l := range slices.Chunk(c.list, api.MaxCode/4) {
		b := newPair(t, code(l...))
		for range l {
			b.step(t)
		}
		b.outcome(t)
		if b.m.Step() || b.p.step() {
			t.Fatal("it goes on behind the code")
		}
	}
}

// What mir has an operation for is what mir.Do makes of the two words.
func TestSumsProductsQuotients(t *testing.T) {
	for op := range strings.FieldsSeq(ofTwo) {
		if op == "mulhsu" {
			continue
		}
		for _, a := range ends() {
			var list []api.Insn
			var want []int
			for _, b := range ends() {
				list = append(list, slices.Concat(li(5, a), li(6, b), []api.Insn{{Op: op, Rd: a0, Rs1: 5, Rs2: 6}}, calls(1))...)
				v, _ := mir.Do(op, a, b)
				want = append(want, v)
			}
			m := made(t, code(list...))
			same(t, m, len(list), api.Outcome{Print: want}, len(list))
		}
	}
}

// mulhsu takes rs1 as a word, and rs2 from 0 on.
func TestMulhsu(t *testing.T) {
	for _, c := range [][3]int{
		{-1, -1, -1}, {-1, 1, -1}, {1, -1, 0}, {2, -1, 1}, {-2, -1, -2}, {0, -1, 0}, {-1, 0, 0},
		{-1 << 31, -1, -1 << 31}, {-1 << 31, -1 << 31, -1 << 30}, {-1 << 31, 2, -1}, {-1 << 31, 1, -1},
		{1<<31 - 1, -1, 1<<31 - 2}, {1<<31 - 1, -1 << 31, 1<<30 - 1}, {1<<31 - 1, 1<<31 - 1, 1<<30 - 1}, {-1, -1 << 31, -1}, {-1 << 31, 1<<31 - 1, -1 << 30},
	} {
		l := slices.Concat(li(5, c[0]), li(6, c[1]), []api.Insn{{Op: "mulhsu", Rd: a0, Rs1: 5, Rs2: 6}}, calls(1))
		same(t, made(t, code(l...)), len(l), api.Outcome{Print: []int{c[2]}}, len(l))
	}
}

// What the chapter says of words, by numbers.
func TestByNumbers(t *testing.T) {
	least, most := -1<<31, 1<<31-1
	for _, c := range []struct {
		op         string
		a, b, want int
	}{
		{"add", most, 1, least}, {"sub", least, 1, most}, {"mul", 1 << 16, 1 << 16, 0}, {"mul", most, most, 1},
		{"mulh", least, least, 1 << 30}, {"mulhu", -1, -1, -2}, {"mulh", -1, 1, -1},
		{"div", least, -1, least}, {"rem", least, -1, 0}, {"div", 7, 0, -1}, {"rem", 7, 0, 7}, {"divu", 7, 0, -1}, {"remu", -7, 0, -7}, {"div", -7, 2, -3}, {"rem", -7, 2, -1}, {"divu", -1, 2, most}, {"remu", -1, 16, 15},
		{"sll", 1, 31, least}, {"sll", 1, 32, 1}, {"sll", 1, -1, least}, {"srl", -1, 31, 1}, {"srl", -1, 32, -1}, {"sra", least, 31, -1}, {"sra", least, 33, -1 << 30}, {"sra", -1, 0, -1},
		{"slt", least, most, 1}, {"slt", most, least, 0}, {"slt", 3, 3, 0}, {"sltu", least, most, 0}, {"sltu", most, least, 1}, {"sltu", 0, -1, 1}, {"sltu", -1, -1, 0},
		{"xor", -1, 5, -6}, {"or", 8, -16, -8}, {"and", -1, least, least},
		{"addi", most, 1, least}, {"addi", 0, -2048, -2048}, {"addi", least, -1, most}, {"slti", -3, -2, 1}, {"slti", -2, -2, 0}, {"sltiu", 5, -1, 1}, {"sltiu", -1, -1, 0}, {"sltiu", -2048, -2047, 1}, {"sltiu", 0, 1, 1},
		{"xori", 5, -1, -6}, {"ori", 1, -2048, -2047}, {"andi", -1, 2047, 2047}, {"andi", -1, -2048, -2048},
		{"slli", 1, 31, least}, {"slli", 1, 0, 1}, {"srli", -1, 31, 1}, {"srli", -1, 0, -1}, {"srai", least, 31, -1}, {"srai", most, 31, 0},
	} {
		i := api.Insn{Op: c.op, Rd: a0, Rs1: 5, Rs2: 6}
		if immediates[c.op] != "" {
			i.Rs2, i.Imm = 0, c.b
		}
		l := slices.Concat(li(5, c.a), li(6, c.b), []api.Insn{i}, calls(1))
		o, _ := made(t, code(l...)).Run(len(l))
		if len(o.Print) != 1 || o.Print[0] != c.want {
			t.Errorf("%s of %d and %d = %s, not %d", c.op, c.a, c.b, told(o), c.want)
		}
	}
}

// Each instruction of registers alone, of words at their ends and of any, in any registers.
func TestRegistersByChance(t *testing.T) {
	r := rand.New(rand.NewSource(252))
	for op := range strings.FieldsSeq(ofTwo) {
		var c cases
		for range 1000 {
			c.add(api.Insn{Op: op, Rd: r.Intn(32), Rs1: r.Intn(32), Rs2: r.Intn(32)}, wordByChance(r), wordByChance(r))
		}
		c.run(t)
	}
	for op := range strings.FieldsSeq(ofNumber) {
		var c cases
		for range 1000 {
			c.add(api.Insn{Op: op, Rd: r.Intn(32), Rs1: r.Intn(32), Imm: numberFor(r, op)}, wordByChance(r), 0)
		}
		c.run(t)
	}
	var c cases
	for range 4000 {
		c.list = append(c.list, api.Insn{Op: "lui", Rd: r.Intn(32), Imm: r.Intn(1 << 20)}, api.Insn{Op: "auipc", Rd: r.Intn(32), Imm: r.Intn(1 << 20)})
	}
	for _, n := range []int{0, 1, 1<<19 - 1, 1 << 19, 1<<20 - 1} {
		c.list = append(c.list, api.Insn{Op: "lui", Rd: 7, Imm: n}, api.Insn{Op: "auipc", Rd: 8, Imm: n})
	}
	c.run(t)
}

// numberFor tells an Imm that the instruction may have.
func numberFor(r *rand.Rand, op string) int {
	if strings.HasPrefix(op, "s") && !strings.HasPrefix(op, "slt") {
		return r.Intn(32)
	}
	if r.Intn(4) == 0 {
		return []int{-2048, -2047, -1, 0, 1, 2047}[r.Intn(6)]
	}
	return r.Intn(4096) - 2048
}

// Of each pair of words at their ends, each branch goes as the chapter says, forwards and backwards.
func TestBranches(t *testing.T) {
	for op := range strings.FieldsSeq(branches) {
		var c cases
		for _, a := range ends() {
			for _, b := range ends() {
				c.add(api.Insn{Op: op, Rs1: 5, Rs2: 6, Imm: 8}, a, b)
				c.list = append(c.list, api.Insn{Op: "addi", Rd: 7, Rs1: 7, Imm: 1}, api.Insn{Op: "addi", Rd: 8, Rs1: 8, Imm: 1})
			}
		}
		runBranches(t, c.list)
	}
}

// runBranches runs code whose branches leave some instructions out, to its end.
func runBranches(t *testing.T, list []api.Insn) {
	t.Helper()
	for l := range slices.Chunk(list, 7*2000) {
		b := newPair(t, code(l...))
		for b.step(t) {
		}
		if b.m.Pc() != 4*len(l) {
			t.Fatal(b.m.Pc())
		}
		b.outcome(t)
	}
}

func TestBranchesByNumbers(t *testing.T) {
	for _, c := range []struct {
		op   string
		a, b int
		goes bool
	}{
		{"beq", 3, 3, true}, {"beq", 3, -3, false}, {"bne", 3, 3, false}, {"bne", 3, -3, true},
		{"blt", -1, 0, true}, {"blt", 0, -1, false}, {"blt", 5, 5, false}, {"bge", -1, 0, false}, {"bge", 0, -1, true}, {"bge", 5, 5, true},
		{"bltu", -1, 0, false}, {"bltu", 0, -1, true}, {"bltu", 5, 5, false}, {"bgeu", -1, 0, true}, {"bgeu", 0, -1, false}, {"bgeu", 5, 5, true},
		{"blt", -1 << 31, 1<<31 - 1, true}, {"bltu", -1 << 31, 1<<31 - 1, false},
	} {
		for _, far := range []int{-4096, -20, -16, -4, -2, 0, 2, 4, 8, 40, 4094} {
			l := slices.Concat(li(5, c.a), li(6, c.b), []api.Insn{{Op: c.op, Rs1: 5, Rs2: 6, Imm: far}})
			b := newPair(t, code(l...))
			for range 5 {
				b.step(t)
			}
			want := 20
			if c.goes {
				want = 16 + far
			}
			if b.m.Pc() != want {
				t.Fatalf("%s of %d and %d by %d goes to %d", c.op, c.a, c.b, far, b.m.Pc())
			}
			b.run(t, 5)
		}
	}
}

// jal and jalr lay the next address in a register, and go where they say, be it themselves.
func TestJumps(t *testing.T) {
	for _, far := range []int{-1 << 20, -4098, -8, -6, -4, -2, 0, 2, 4, 6, 8, 12, 1000, api.MaxCode - 8, api.MaxCode - 4, 1<<20 - 2} {
		for _, rd := range []int{0, 1, 2, 31} {
			l := []api.Insn{{Op: "addi", Rd: 1, Imm: 3}, {Op: "addi"}, {Op: "jal", Rd: rd, Imm: far}, {Op: "addi", Rd: 4, Imm: 9}}
			b := newPair(t, code(l...))
			for range 3 {
				b.step(t)
			}
			if b.m.Pc() != 8+far || rd != 0 && b.m.Reg(rd) != 12 || b.m.Reg(0) != 0 {
				t.Fatalf("jal x%d, %d at 8: pc %d, x%d %d", rd, far, b.m.Pc(), rd, b.m.Reg(rd))
			}
			b.run(t, 10)
		}
	}
}

func TestJumpsToRegisters(t *testing.T) {
	places := append(ends(), 0, 1, 2, 3, 4, 5, 8, 11, 12, 13, 16, 17, 20, 24, 28, api.MaxCode, api.MaxCode-1, mem.Stack)
	for _, at := range places {
		for _, n := range []int{-2048, -5, -4, -1, 0, 1, 2, 3, 4, 2047} {
			for _, registers := range [][2]int{{0, 5}, {1, 5}, {5, 5}, {1, 0}, {0, 0}} {
				l := append(li(5, at), api.Insn{Op: "jalr", Rd: registers[0], Rs1: registers[1], Imm: n}, api.Insn{Op: "addi", Rd: 4, Imm: 9})
				b := newPair(t, code(l...))
				for range 3 {
					b.step(t)
				}
				from := at
				if registers[1] == 0 {
					from = 0
				}
				want := int(int32(from+n)) &^ 1
				if b.m.Pc() != want || registers[0] != 0 && b.m.Reg(registers[0]) != 12 {
					t.Fatalf("jalr x%d, x%d (%d), %d at 8: pc %d", registers[0], registers[1], from, n, b.m.Pc())
				}
				for range 6 {
					b.step(t)
				}
				b.outcome(t)
			}
		}
	}
}

// An instruction that goes to itself is run as long as there is fuel.
func TestToItself(t *testing.T) {
	for _, i := range []api.Insn{{Op: "jal"}, {Op: "jal", Rd: 1}, {Op: "beq"}, {Op: "bge", Rs1: 3, Rs2: 4}, {Op: "jalr", Imm: 0}, {Op: "jalr", Imm: 1}, {Op: "bgeu", Rs1: 2}} {
		b := newPair(t, code(i))
		for range 50 {
			if !b.step(t) || b.m.Pc() != 0 {
				t.Fatalf("%+v: it does not stay", i)
			}
		}
		same(t, b.m, 100000, api.Outcome{}, 100050)
	}
}

// x0 is 0, whatever is set in it, and whoever reads it.
func TestRegisterZero(t *testing.T) {
	for _, i := range intoRegisterZero() {
		for _, a := range []int{0, 1, -1, mem.Stack, 77} {
			ahead := slices.Concat(li(7, -1), []api.Insn{{Op: "sw", Rs1: 2, Rs2: 7, Imm: -4}}, li(5, a), li(6, a+3), li(20, 40))
			l := append(ahead, i, api.Insn{Op: "addi", Rd: 8, Imm: 5}, api.Insn{Op: "add", Rd: 9}, api.Insn{Op: "sub", Rd: a0, Rs2: 8}, api.Insn{Op: "sw", Rs1: 2, Imm: -8})
			b := newPair(t, code(l...))
			for range l {
				if !b.step(t) || b.m.Reg(0) != 0 {
					t.Fatalf("%+v: x0 = %d", i, b.m.Reg(0))
				}
			}
			if b.m.Reg(9) != 0 || b.m.Reg(a0) != -5 {
				t.Fatalf("%+v: what x0 told is not 0", i)
			}
			b.all(t)
		}
	}
}

// intoRegisterZero are instructions that set x0, if anything; x20 holds where the next one is.
func intoRegisterZero() []api.Insn {
	l := []api.Insn{{Op: "lui", Imm: 5}, {Op: "auipc", Imm: 5}, {Op: "jal", Imm: 4}, {Op: "jalr", Rs1: 20}}
	for op := range strings.FieldsSeq(ofTwo) {
		l = append(l, api.Insn{Op: op, Rs1: 5, Rs2: 6})
	}
	for op := range strings.FieldsSeq(ofNumber) {
		l = append(l, api.Insn{Op: op, Rs1: 5, Imm: 7})
	}
	for op := range strings.FieldsSeq(loads) {
		l = append(l, api.Insn{Op: op, Rs1: 2, Imm: -4})
	}
	return l
}
