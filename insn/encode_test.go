package insn_test

import (
	"math/rand"
	"slices"
	"testing"

	"ferrule/api"
	"ferrule/insn"
)

// P22.1, P22.2, P22.3: words that other assemblers make of each instruction.
func TestKnownWords(t *testing.T) {
	seen := map[string]bool{}
	for _, c := range []struct {
		word uint32
		insn api.Insn
	}{
		{0xfff10093, api.Insn{Op: "addi", Rd: 1, Rs1: 2, Imm: -1}},
		{0x00000013, api.Insn{Op: "addi"}},
		{0x00008067, api.Insn{Op: "jalr", Rs1: 1}},
		{0x800f80e7, api.Insn{Op: "jalr", Rd: 1, Rs1: 31, Imm: -2048}},
		{0xfffff537, api.Insn{Op: "lui", Rd: 10, Imm: 0xfffff}},
		{0x00001297, api.Insn{Op: "auipc", Rd: 5, Imm: 1}},
		{0x001000ef, api.Insn{Op: "jal", Rd: 1, Imm: 2048}},
		{0x8000006f, api.Insn{Op: "jal", Imm: -1048576}},
		{0x7fffffef, api.Insn{Op: "jal", Rd: 31, Imm: 1048574}},
		{0x80000063, api.Insn{Op: "beq", Imm: -4096}},
		{0x7e208fe3, api.Insn{Op: "beq", Rs1: 1, Rs2: 2, Imm: 4094}},
		{0x01eff0e3, api.Insn{Op: "bgeu", Rs1: 31, Rs2: 30, Imm: 2048}},
		{0x0041e863, api.Insn{Op: "bltu", Rs1: 3, Rs2: 4, Imm: 16}},
		{0xfe62cfe3, api.Insn{Op: "blt", Rs1: 5, Rs2: 6, Imm: -2}},
		{0x0083df63, api.Insn{Op: "bge", Rs1: 7, Rs2: 8, Imm: 30}},
		{0xfff10083, api.Insn{Op: "lb", Rd: 1, Rs1: 2, Imm: -1}},
		{0x7ff21183, api.Insn{Op: "lh", Rd: 3, Rs1: 4, Imm: 2047}},
		{0x80032283, api.Insn{Op: "lw", Rd: 5, Rs1: 6, Imm: -2048}},
		{0x00144383, api.Insn{Op: "lbu", Rd: 7, Rs1: 8, Imm: 1}},
		{0x00255483, api.Insn{Op: "lhu", Rd: 9, Rs1: 10, Imm: 2}},
		{0xfeb60fa3, api.Insn{Op: "sb", Rs1: 12, Rs2: 11, Imm: -1}},
		{0x7ed71fa3, api.Insn{Op: "sh", Rs1: 14, Rs2: 13, Imm: 2047}},
		{0x80f82023, api.Insn{Op: "sw", Rs1: 16, Rs2: 15, Imm: -2048}},
		{0x00592893, api.Insn{Op: "slti", Rd: 17, Rs1: 18, Imm: 5}},
		{0xffba3993, api.Insn{Op: "sltiu", Rd: 19, Rs1: 20, Imm: -5}},
		{0xfffb4a93, api.Insn{Op: "xori", Rd: 21, Rs1: 22, Imm: -1}},
		{0x555c6b93, api.Insn{Op: "ori", Rd: 23, Rs1: 24, Imm: 1365}},
		{0xaaad7c93, api.Insn{Op: "andi", Rd: 25, Rs1: 26, Imm: -1366}},
		{0x01fe1d93, api.Insn{Op: "slli", Rd: 27, Rs1: 28, Imm: 31}},
		{0x001f5e93, api.Insn{Op: "srli", Rd: 29, Rs1: 30, Imm: 1}},
		{0x41f0df93, api.Insn{Op: "srai", Rd: 31, Rs1: 1, Imm: 31}},
		{0x00c58533, api.Insn{Op: "add", Rd: 10, Rs1: 11, Rs2: 12}},
		{0x40c58533, api.Insn{Op: "sub", Rd: 10, Rs1: 11, Rs2: 12}},
		{0x003110b3, api.Insn{Op: "sll", Rd: 1, Rs1: 2, Rs2: 3}},
		{0x0062a233, api.Insn{Op: "slt", Rd: 4, Rs1: 5, Rs2: 6}},
		{0x009433b3, api.Insn{Op: "sltu", Rd: 7, Rs1: 8, Rs2: 9}},
		{0x00c5c533, api.Insn{Op: "xor", Rd: 10, Rs1: 11, Rs2: 12}},
		{0x00f756b3, api.Insn{Op: "srl", Rd: 13, Rs1: 14, Rs2: 15}},
		{0x4128d833, api.Insn{Op: "sra", Rd: 16, Rs1: 17, Rs2: 18}},
		{0x015a69b3, api.Insn{Op: "or", Rd: 19, Rs1: 20, Rs2: 21}},
		{0x018bfb33, api.Insn{Op: "and", Rd: 22, Rs1: 23, Rs2: 24}},
		{0x02b50533, api.Insn{Op: "mul", Rd: 10, Rs1: 10, Rs2: 11}},
		{0x023110b3, api.Insn{Op: "mulh", Rd: 1, Rs1: 2, Rs2: 3}},
		{0x0262a233, api.Insn{Op: "mulhsu", Rd: 4, Rs1: 5, Rs2: 6}},
		{0x029433b3, api.Insn{Op: "mulhu", Rd: 7, Rs1: 8, Rs2: 9}},
		{0x02c5c533, api.Insn{Op: "div", Rd: 10, Rs1: 11, Rs2: 12}},
		{0x02f756b3, api.Insn{Op: "divu", Rd: 13, Rs1: 14, Rs2: 15}},
		{0x0328e833, api.Insn{Op: "rem", Rd: 16, Rs1: 17, Rs2: 18}},
		{0x03ffffb3, api.Insn{Op: "remu", Rd: 31, Rs1: 31, Rs2: 31}},
		{0x00000073, api.Insn{Op: "ecall"}},
		{0x00100073, api.Insn{Op: "ebreak"}},
		{0xffdff06f, api.Insn{Op: "jal", Imm: -4}},
		{0x00812423, api.Insn{Op: "sw", Rs1: 2, Rs2: 8, Imm: 8}},
		{0x12345037, api.Insn{Op: "lui", Imm: 0x12345}},
		{0x4051d193, api.Insn{Op: "srai", Rd: 3, Rs1: 3, Imm: 5}},
		{0xfe209ee3, api.Insn{Op: "bne", Rs1: 1, Rs2: 2, Imm: -4}},
	} {
		seen[c.insn.Op] = true
		if w, ok := insn.Encode(c.insn); w != c.word || !ok {
			t.Errorf("Encode(%+v) = %#08x, %v, not %#08x", c.insn, w, ok, c.word)
		}
		if i, e := insn.Decode(c.word); i != c.insn || e != api.OK {
			t.Errorf("Decode(%#08x) = %+v, %d, not %+v", c.word, i, int(e), c.insn)
		}
		wantEncoded(t, c.insn, true)
		wantDecoded(t, c.word, true)
	}
	if len(seen) != len(table) {
		t.Errorf("%d of %d instructions", len(seen), len(table))
	}
}

// W4: the plain telling has no word of two instructions, and all names once.
func TestPlain(t *testing.T) {
	if len(table) != 47 {
		t.Fatal(len(table))
	}
	for k, p := range table {
		for _, q := range table[:k] {
			apart := false
			for at := range p.bits {
				a, b := p.bits[at], q.bits[at]
				apart = apart || a.field == "" && b.field == "" && a.n != b.n
			}
			if !apart || p.name == q.name {
				t.Errorf("%s, %s", p.name, q.name)
			}
		}
	}
}

// P22.1, P22.3: each register in each field, the other fields having none, all, or others of their bits.
func TestRegisters(t *testing.T) {
	r := rand.New(rand.NewSource(221))
	for _, p := range table {
		for _, field := range []string{"rd", "rs1", "rs2"} {
			if !p.has(field) {
				continue
			}
			for n := range 32 {
				for _, i := range []api.Insn{{Op: p.name}, full(p), byChance(r, p), byChance(r, p)} {
					set(&i, field, n)
					wantEncoded(t, i, true)
				}
			}
			for _, n := range slices.Concat([]int{-1, -2, -31, -32, 32, 33, 63, 64, 128, 255, 256, 4096}, far()) {
				for _, i := range []api.Insn{{Op: p.name}, full(p), byChance(r, p)} {
					set(&i, field, n)
					wantEncoded(t, i, false)
				}
			}
		}
	}
}

// full has the greatest registers, and the greatest number.
func full(p plain) api.Insn {
	i := api.Insn{Op: p.name, Imm: p.most}
	for _, field := range []string{"rd", "rs1", "rs2"} {
		if p.has(field) {
			set(&i, field, 31)
		}
	}
	return i
}

// edges tells the numbers near a form's edges, each bit of a number alone, and all but one, with those beside them.
func edges(p plain) []int {
	var l []int
	for near := -9; near <= 9; near++ {
		l = append(l, near, p.least+near, p.most+near)
		for n := range 34 {
			l = append(l, 1<<n+near, -1<<n+near)
		}
	}
	return append(l, far()...)
}

// P22.1, P22.3: numbers near each form's edges and beyond, with each bit alone; even ones and odd ones.
func TestNumbers(t *testing.T) {
	r := rand.New(rand.NewSource(222))
	for _, p := range table {
		for _, n := range edges(p) {
			is := n >= p.least && n <= p.most && n%p.step == 0
			for _, i := range []api.Insn{{Op: p.name}, full(p), byChance(r, p)} {
				i.Imm = n
				wantEncoded(t, i, is)
			}
		}
	}
}

// P22.1: the least and the greatest number of each form, and those right beyond them, as the chapter tells them.
func TestEdges(t *testing.T) {
	for _, c := range []struct {
		names       []string
		least, most int
		beyond      []int
	}{
		{[]string{"lui", "auipc"}, 0, 1<<20 - 1, []int{-1, 1 << 20, -1 << 19, 1<<32 - 1}},
		{[]string{"jal"}, -1 << 20, 1<<20 - 2, []int{-1<<20 - 2, -1<<20 - 1, 1<<20 - 1, 1 << 20, -1<<20 + 1, 1<<20 - 3, 1, -1, 3}},
		{[]string{"jalr", "lb", "lh", "lw", "lbu", "lhu", "addi", "slti", "sltiu", "xori", "ori", "andi", "sb", "sh", "sw"}, -2048, 2047, []int{-2049, 2048, 4095, -4096}},
		{[]string{"slli", "srli", "srai"}, 0, 31, []int{-1, 32, 1<<5 + 1, 1024, 1024 + 5, -32}},
		{[]string{"beq", "bne", "blt", "bge", "bltu", "bgeu"}, -4096, 4094, []int{-4098, -4097, 4095, 4096, -4095, 4093, 1, -1, 3}},
		{[]string{"add", "sub", "sll", "slt", "sltu", "xor", "srl", "sra", "or", "and", "mul", "mulh", "mulhsu", "mulhu", "div", "divu", "rem", "remu", "ecall", "ebreak"}, 0, 0, []int{-1, 1, 2, -2, 32, 1024}},
	} {
		for _, name := range c.names {
			for _, n := range []int{c.least, c.most, 0} {
				wantEncoded(t, api.Insn{Op: name, Imm: n}, true)
			}
			for _, n := range c.beyond {
				wantEncoded(t, api.Insn{Op: name, Imm: n}, false)
			}
		}
	}
}

// P22.1, P22.3: all numbers of the forms that have few, and of the others every so many; odd ones, too.
func TestAllNumbers(t *testing.T) {
	for _, p := range table {
		by := 1 + (p.most-p.least)/8192*11
		taken := 0
		for n := p.least; n <= p.most; n += by {
			i := api.Insn{Op: p.name, Imm: n}
			for k, field := range []string{"rd", "rs1", "rs2"} {
				if p.has(field) {
					set(&i, field, (n-p.least+9*k)%32)
				}
			}
			if encodes(t, i) {
				taken++
			}
		}
		if taken < (p.most-p.least)/p.step/by {
			t.Errorf("%s: %d", p.name, taken)
		}
	}
}

// P22.1, P22.3: instructions made by chance, with fields that their forms have.
func TestChance(t *testing.T) {
	r := rand.New(rand.NewSource(223))
	for range 2000 {
		for _, p := range table {
			wantEncoded(t, byChance(r, p), true)
		}
	}
}

// P22.3: no two instructions have one word.
func TestOneWordEach(t *testing.T) {
	r := rand.New(rand.NewSource(224))
	words := map[uint32]api.Insn{}
	for range 3000 {
		for _, p := range table {
			i := byChance(r, p)
			w, _ := insn.Encode(i)
			if other, is := words[w]; is && other != i {
				t.Fatalf("%#08x: %+v, %+v", w, other, i)
			}
			words[w] = i
		}
	}
}
