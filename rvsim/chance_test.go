package rvsim_test

import (
	"math/rand"
	"slices"
	"strconv"
	"strings"
	"testing"

	"ferrule/api"
	"ferrule/mem"
	"ferrule/rvsim"
)

// P25.5, and all of P25.2 to P25.4 with it: code made by chance, by Steps, by Runs in parts, and at once.

// registersByChance are those that the code by chance reads and sets; 8 and 9 are where it loads and stores.
func registersByChance(r *rand.Rand) int {
	return []int{0, 1, 5, 6, 7, a0, 11, 12, 28, 31}[r.Intn(10)]
}

// instructionByChance makes one at a place of code of so many words. Most of them can be run without a trap.
func instructionByChance(r *rand.Rand, at, words int) []api.Insn {
	one := func(names string, i api.Insn) []api.Insn {
		l := strings.Fields(names)
		i.Op = l[r.Intn(len(l))]
		return []api.Insn{i}
	}
	rd, rs1, rs2 := registersByChance(r), registersByChance(r), registersByChance(r)
	goes := 4 * (r.Intn(words) - at)
	switch k := r.Intn(100); {
	case k < 25:
		return one(ofTwo, api.Insn{Rd: rd, Rs1: rs1, Rs2: rs2})
	case k < 40:
		return one("addi slti sltiu xori ori andi", api.Insn{Rd: rd, Rs1: rs1, Imm: r.Intn(4096) - 2048})
	case k < 47:
		return one("slli srli srai", api.Insn{Rd: rd, Rs1: rs1, Imm: r.Intn(32)})
	case k < 51:
		return one("lui auipc", api.Insn{Rd: rd, Imm: r.Intn(1 << 20)})
	case k < 61:
		return one("lw lh lhu lb lbu", api.Insn{Rd: rd, Rs1: 8 + r.Intn(2), Imm: 4 * r.Intn(16)})
	case k < 71:
		return one("sw sh sb", api.Insn{Rs1: 8 + r.Intn(2), Rs2: rs2, Imm: 4 * r.Intn(16)})
	case k < 82:
		return one(branches, api.Insn{Rs1: rs1, Rs2: rs2, Imm: max(-4096, min(4092, goes))})
	case k < 84:
		return one("jal", api.Insn{Rd: rd, Imm: goes})
	case k < 86:
		return append(one("auipc", api.Insn{Rd: rd}), api.Insn{Op: "jalr", Rd: rs1, Rs1: rd, Imm: max(-2048, min(2047, goes+r.Intn(2)))})
	case k < 96:
		return calls(1 + r.Intn(3))
	case k < 98:
		return slices.Concat(asks(4, r.Intn(129)), calls(1))
	case k < 99:
		return append([]api.Insn{{Op: "addi", Rd: a0, Rs1: []int{9, a0}[r.Intn(2)]}}, calls(5)...)
	}
	return wildByChance(r, rd, rs1, rs2)
}

// wildByChance makes what most often ends a run, or changes where loads and stores go.
func wildByChance(r *rand.Rand, rd, rs1, rs2 int) []api.Insn {
	switch r.Intn(8) {
	case 0:
		return []api.Insn{{Op: "lw", Rd: rd, Rs1: rs1, Imm: r.Intn(4096) - 2048}}
	case 1:
		return []api.Insn{{Op: "sb", Rs1: rs1, Rs2: rs2, Imm: r.Intn(4096) - 2048}}
	case 2:
		return []api.Insn{{Op: "jalr", Rd: rd, Rs1: rs1, Imm: r.Intn(200)}}
	case 3:
		return calls(r.Intn(10) - 1)
	case 4:
		return calls(6 + r.Intn(2))
	case 5:
		return []api.Insn{{Op: "lh", Rd: rd, Rs1: 8, Imm: r.Intn(64)}}
	case 6:
		return asks(4, 120)
	}
	return append(asks(4, r.Intn(64)), api.Insn{Op: "addi", Rd: 9, Rs1: a0})
}

// codeByChance makes code, with a word that is no instruction here and there.
func codeByChance(r *rand.Rand) []uint32 {
	words := 40 + r.Intn(300)
	l := slices.Concat(asks(4, 16+r.Intn(113)), []api.Insn{{Op: "addi", Rd: 9, Rs1: a0}, {Op: "addi", Rd: 8, Rs1: 2, Imm: -64}})
	for len(l) < words {
		l = append(l, instructionByChance(r, len(l), words)...)
	}
	w := code(l...)
	if r.Intn(4) == 0 {
		w[20+r.Intn(len(w)-20)] = r.Uint32()
	}
	return w
}

func inputByChance(r *rand.Rand) []int {
	input := make([]int, r.Intn(40))
	for k := range input {
		input[k] = int(r.Uint64()) >> r.Intn(64)
	}
	return input
}

func TestCodeByChance(t *testing.T) {
	ended := map[int]int{}
	for seed := range 200 {
		r := rand.New(rand.NewSource(int64(seed)))
		words, input := codeByChance(r), inputByChance(r)
		b := newPair(t, words, input...)
		b.run(t, 1500)
		ended[b.p.kind]++
		inParts(t, r, words, input, b.p)
	}
	for _, kind := range []int{api.OutFuel, api.OutExit, api.OutDepth, api.OutTrap} {
		if ended[kind] < 5 {
			t.Errorf("too few runs came to %d: %v", kind, ended)
		}
	}
}

// inParts runs code at once, and in parts by Steps and Runs, as far as the plain machine went.
func inParts(t *testing.T, r *rand.Rand, words []uint32, input []int, p *plain) {
	t.Helper()
	once := pair{made(t, words, input...), p}
	same(t, once.m, p.steps, p.outcome(), p.steps)
	once.all(t)

	parts := pair{made(t, words, input...), p}
	for done := 0; done < p.steps; {
		fuel := min(r.Intn(200), p.steps-done)
		if r.Intn(3) == 0 {
			parts.m.Step()
			fuel = 1
		} else {
			parts.m.Run(fuel)
		}
		done += fuel
		if o, n := parts.m.Run(-1); n != done || done < p.steps && o.Kind != api.OutFuel {
			t.Fatalf("%d steps: %s, %d", done, told(o), n)
		}
	}
	parts.all(t)
}

// Where the two parts meet does not matter.
func TestTwoParts(t *testing.T) {
	for seed := range 12 {
		r := rand.New(rand.NewSource(int64(7000 + seed)))
		words, input := codeByChance(r), inputByChance(r)
		want := newPlain(words, input)
		for range 120 {
			want.step()
		}
		for first := range want.steps + 1 {
			m := made(t, words, input...)
			m.Run(first)
			same(t, m, 120-first, want.outcome(), want.steps)
			pair{m, want}.registers(t)
		}
	}
}

// The same code with the same input does the same whenever it is run, in one machine or in several at one time.
func TestRunAgain(t *testing.T) {
	r := rand.New(rand.NewSource(256))
	words, input := codeByChance(r), inputByChance(r)
	want := newPlain(words, input)
	for range 2000 {
		want.step()
	}
	for n := range 6 {
		t.Run(strconv.Itoa(n), func(t *testing.T) {
			t.Parallel()
			for range 5 {
				b := pair{made(t, words, input...), want}
				same(t, b.m, 2000, want.outcome(), want.steps)
				b.all(t)
			}
		})
	}
}

// So do machines that run in turn.
func TestMachinesInTurn(t *testing.T) {
	var all []pair
	for seed := range 8 {
		r := rand.New(rand.NewSource(int64(8000 + seed/2)))
		all = append(all, newPair(t, codeByChance(r), inputByChance(r)...))
	}
	for range 400 {
		for _, b := range all {
			b.step(t)
		}
	}
	for _, b := range all {
		b.all(t)
	}
}

// eachWord runs one word behind instructions that fill all registers, and holds it against the plain machine. It answers whether it was run.
func eachWord(t *testing.T, fill []uint32, w uint32) bool {
	t.Helper()
	b := newPair(t, append(slices.Clone(fill), w), 77)
	for range fill {
		b.p.step()
	}
	same(t, b.m, len(fill), api.Outcome{}, len(fill))
	run := b.step(t)
	if !isInstruction(w) && (run || b.p.kind != api.OutTrap) {
		t.Fatalf("%#08x is run", w)
	}
	b.outcome(t)
	b.words(t, mem.Stack, mem.End-4096, blockAt(64))
	if b.m.Reg(0) != 0 {
		t.Fatalf("%#08x: x0 = %d", w, b.m.Reg(0))
	}
	return run
}

// fills are instructions that fill the registers: a quarter of them with places of the stack, another with places of a block, and some with what ecalls take.
func fills(r *rand.Rand) []uint32 {
	l := asks(4, 64)
	for k := 1; k < 32; k++ {
		v := wordByChance(r)
		switch k % 4 {
		case 0:
			v = mem.End - 4096 + r.Intn(8)
		case 1:
			v = blockAt(64) + 4*r.Intn(3)
		}
		if k == a7 && r.Intn(2) == 0 {
			v = r.Intn(9)
		}
		l = append(l, li(k, v)...)
	}
	return code(l...)
}

func TestEachWord(t *testing.T) {
	r := rand.New(rand.NewSource(257))
	ops := []uint32{55, 23, 111, 103, 3, 19, 99, 35, 51, 115}
	many := 0
	for k := range 4000 {
		w := r.Uint32()
		switch k % 4 {
		case 1, 2:
			w = w&^127 | ops[r.Intn(len(ops))]
		case 3:
			w = w&^(127|127<<25) | ops[r.Intn(len(ops))] | []uint32{0, 1, 32}[r.Intn(3)]<<25
		}
		if eachWord(t, fills(r), w) {
			many++
		}
	}
	if many < 1000 {
		t.Errorf("only %d were run", many)
	}
	fill := fills(r)
	for bit := range 32 {
		eachWord(t, fill, 1<<bit)
		eachWord(t, fill, 1<<bit-1)
		eachWord(t, fill, ^uint32(1<<bit))
		for _, w := range []uint32{0x73, 0x00100073, 0x13, 0x6f, 0x67, 0x37} {
			eachWord(t, fill, w^1<<bit)
		}
	}
}

// New of words by chance, good ones and bad ones.
func TestAnyCode(t *testing.T) {
	r := rand.New(rand.NewSource(258))
	for range 300 {
		words := make([]uint32, r.Intn(60))
		for k := range words {
			words[k] = r.Uint32()
			if r.Intn(4) > 0 {
				words[k] = instructionWord(r)
			}
		}
		b := newPair(t, words, inputByChance(r)...)
		for range 200 {
			if !b.step(t) {
				break
			}
		}
		b.outcome(t)
		m, e := rvsim.New(words, nil)
		if m == nil || e != api.OK {
			t.Fatal(int(e))
		}
	}
}

// instructionWord tells a word of chance that is an instruction.
func instructionWord(r *rand.Rand) uint32 {
	for {
		if w := r.Uint32()&^(127<<25) | 3; isInstruction(w) {
			return w
		}
	}
}
