package rvsim_test

import (
	"math/rand"
	"slices"
	"strings"
	"testing"

	"ferrule/api"
	"ferrule/heap"
	"ferrule/insn"
	"ferrule/mem"
)

// P25.2: which steps are OutTrap, that nothing else changes there, and which addresses may be used.

// ahead are instructions that fill registers, the stack, a block, the input and what was printed, so that a change would be seen.
func ahead() []api.Insn {
	l := slices.Concat(asks(1, -7), asks(2, -7), calls(3), asks(4, 3), li(6, 0x12345678), []api.Insn{{Op: "sw", Rs1: a0, Rs2: 6, Imm: 8}})
	for at := -16; at < 0; at += 4 {
		l = append(l, api.Insn{Op: "sw", Rs1: 2, Rs2: 6, Imm: at})
	}
	for k := 11; k < 32; k++ {
		l = append(l, li(k, -1000*k)...)
	}
	return append(l, li(2, mem.End-8)...)
}

// trapsBehind runs what is ahead, so many instructions more, and asks that the next one traps.
func trapsBehind(t *testing.T, l ...api.Insn) {
	t.Helper()
	words := joined(ahead(), l)
	traps(t, words, len(words)-1, 5, 6, 7)
}

func TestNoInstruction(t *testing.T) {
	before := code(ahead()...)
	bad := []uint32{
		0, 1, 2, 1<<32 - 1, 1 << 31, 0x0000000f /* FENCE */, 0x00001073 /* a CSR one */, 0x00200073, 0x00000173, 0x000000f3, 0x00108073, 0x30200073,
		0x02000063 | 2<<12, 0x00003003, 0x00006003, 0x00007003, 0x00003023, 0x00007023, 0x00001067, 0x02001013, 0x40001013, 0x02005013, 0x42005013, 0x60005013, 0x40001033, 0x42000033, 0x04000033, 0xfe000033, 0x00000037 &^ 1, 0x00000013 &^ 2, 0x0000001b, 0x0000003b, 0x0000002f, 0x00000007, 0x00000027, 0x00000053,
	}
	r := rand.New(rand.NewSource(251))
	for len(bad) < 120 {
		if w := r.Uint32(); !isInstruction(w) {
			bad = append(bad, w)
		}
	}
	for _, w := range bad {
		if isInstruction(w) {
			t.Fatalf("%#08x is one", w)
		}
		traps(t, append(slices.Clone(before), w, before[0]), len(before), 5, 6, 7)
	}
}

func isInstruction(w uint32) bool {
	_, e := insn.Decode(w)
	return e == api.OK
}

func TestBreak(t *testing.T) {
	trapsBehind(t, api.Insn{Op: "ebreak"})
	traps(t, code(api.Insn{Op: "ebreak"}), 0)
}

// The pc at the code's end, behind it, below 0, and at no multiple of 4.
func TestNoCode(t *testing.T) {
	traps(t, nil, 0)
	traps(t, []uint32{}, 0, 1, 2)
	traps(t, code(api.Insn{Op: "addi"}), 1)
	many := len(joined(ahead()))
	for _, to := range []int{
		-1 << 31, -1<<31 + 2, -api.MaxCode, -1 << 20, -1024, -8, -6, -4, -2, 2, 6, 4*many + 2, 4*many + 6, 4*many + 10, 4*many + 14,
		4*many + 12, 4*many + 16, api.MaxCode - 4, api.MaxCode, api.MaxCode + 4, 1 << 18, 1 << 19, 1<<20 - 4, 1 << 20, 1 << 30, 1<<31 - 4, 1<<31 - 2,
	} {
		l := slices.Concat(ahead(), li(5, to), []api.Insn{{Op: "jalr", Rd: 1, Rs1: 5}})
		traps(t, code(l...), len(l), 5, 6, 7)
		l[len(l)-1].Imm, l[len(l)-1].Rd = 1, 5
		traps(t, code(l...), len(l), 5, 6, 7)
	}
	for _, far := range []int{-4096, -4 * many, 2, 6, 4094} {
		i := api.Insn{Op: "beq", Imm: far}
		if far == -4*many {
			i.Imm -= 4
		}
		l := append(ahead(), i)
		traps(t, code(l...), len(l), 5, 6, 7)
	}
	for _, far := range []int{-1 << 20, -4*many - 4, -4*many - 2, 2, 4, 6, 8, 1<<20 - 2} {
		l := append(ahead(), api.Insn{Op: "jal", Rd: 1, Imm: far})
		traps(t, code(l...), len(l), 5, 6, 7)
	}
}

// usesAll runs each load and each store at an address, behind other instructions, and holds them against the plain machine. It answers how many of them were run.
func usesAll(t *testing.T, before []api.Insn, at int) int {
	t.Helper()
	many := 0
	for op := range strings.FieldsSeq(loads + " " + stores) {
		for _, n := range []int{0, 3, -2048, 2047} {
			l := slices.Concat(before, li(5, int(int32(at-n))), li(6, -0x01020305), []api.Insn{{Op: op, Rs1: 5, Imm: n}})
			last := &l[len(l)-1]
			if strings.Contains(stores, op) {
				last.Rs2 = 6
			} else {
				last.Rd = 7
			}
			b := newPair(t, code(l...))
			for range len(l) - 1 {
				if !b.step(t) {
					t.Fatal("it is over ahead of it")
				}
			}
			if b.step(t) {
				many++
			}
			b.outcome(t)
			b.words(t, at, mem.Stack, mem.End-4, heap.Base)
		}
	}
	return many
}

// words holds those around some addresses against the plain ones.
func (b pair) words(t *testing.T, places ...int) {
	t.Helper()
	for _, near := range places {
		for at := near - near%4 - 8; at <= near+8; at += 4 {
			if at < 0 || at >= mem.End {
				continue
			}
			if got, e := b.m.Peek(at); got != signed(b.p.load(at, 4), 4) || e != api.OK {
				t.Fatalf("Peek(%d) = %d, %d", at, got, int(e))
			}
		}
	}
}

// Around the stack's beginning and the memory's end, at multiples and at none.
func TestAddressesOfTheStack(t *testing.T) {
	for by := -4; by <= 4; by++ {
		wants := 0
		if by >= 0 {
			wants = 3 * 4 // lb, lbu, sb
		}
		if by >= 0 && by%2 == 0 {
			wants += 3 * 4 // lh, lhu, sh
		}
		if by >= 0 && by%4 == 0 {
			wants += 2 * 4 // lw, sw
		}
		if many := usesAll(t, nil, mem.Stack+by); many != wants {
			t.Errorf("Stack%+d: %d, not %d", by, many, wants)
		}
		wants = 0
		if by < 0 {
			wants = 3 * 4
		}
		if by < 0 && by%2 == 0 {
			wants += 3 * 4
		}
		if by == -4 {
			wants += 2 * 4
		}
		if many := usesAll(t, nil, mem.End+by); many != wants {
			t.Errorf("End%+d: %d, not %d", by, many, wants)
		}
	}
	for _, at := range []int{-1 << 31, -1<<31 + 4, -1 << 20, -1 << 18, -8, -4, -3, -2, -1, 0, 1, 2, 4, 100, api.MaxCode - 4, api.MaxCode, 1 << 17, heap.Base - 4, heap.Base, heap.Base + heap.Size, mem.Stack - 2048, mem.End + 2048, 1 << 30, 1<<31 - 8, 1<<31 - 4, 1<<31 - 2, 1<<31 - 1} {
		if many := usesAll(t, nil, at); many != 0 {
			t.Errorf("%d: %d", at, many)
		}
	}
	for _, at := range []int{mem.Stack + 1<<18, mem.Stack + 4096, mem.End - 4096} {
		if many := usesAll(t, nil, at); many != 32 {
			t.Errorf("%d: %d", at, many)
		}
	}
}

// A sum that leaves a word goes round: no such address may be used.
func TestAddressesGoRound(t *testing.T) {
	for _, c := range [][2]int{{1<<31 - 1, 1}, {1<<31 - 1, 2047}, {-1 << 31, -2048}, {-1 << 31, -4}, {-1, 1}, {-4, 4}, {-2048, 2047}} {
		for op := range strings.FieldsSeq(loads + " " + stores) {
			l := append(li(5, c[0]), api.Insn{Op: op, Rs1: 5, Imm: c[1]})
			traps(t, code(l...), 2)
		}
	}
}

// Of a block of each class: its first and last bytes, those beyond, in use and let go, with none beside it and with both.
func TestAddressesOfBlocks(t *testing.T) {
	for _, words := range []int{4, 16, 64, 128} {
		at := blockAt(words) + 4*words // the second one of its class
		three := slices.Concat(asks(4, words), asks(4, words), asks(4, words))
		lets := func(k int) []api.Insn { return asks(5, at+4*words*k) }
		for name, before := range map[string][]api.Insn{
			"alone":  slices.Concat(three, lets(-1), lets(1)),
			"all":    three,
			"beside": slices.Concat(three, lets(0)),
			"none":   slices.Concat(three, lets(-1), lets(0), lets(1)),
			"again":  slices.Concat(three, lets(0), asks(4, words), lets(1), lets(-1)),
		} {
			used := name == "alone" || name == "all" || name == "again"
			for _, c := range []struct{ at, inside int }{{at, 32}, {at + 4*words - 4, 32}, {at + 4*words - 2, 24}, {at + 4*words - 1, 12}, {at + 1, 12}, {at + 2, 24}, {at + 2*words, 32}} {
				wants := 0
				if used {
					wants = c.inside
				}
				if many := usesAll(t, before, c.at); many != wants {
					t.Errorf("%d words, %s: at %d of the block %d, not %d", words, name, c.at-at, many, wants)
				}
			}
			for _, c := range []struct{ at, inside int }{{at - 4, 32}, {at - 2, 24}, {at - 1, 12}, {at + 4*words, 32}, {at + 4*words + 1, 12}} {
				wants := 0
				if name == "all" || name == "beside" {
					wants = c.inside
				}
				if many := usesAll(t, before, c.at); many != wants {
					t.Errorf("%d words, %s: at %d of the block %d, not %d", words, name, c.at-at, many, wants)
				}
			}
		}
	}
}

// All words of the heap, with some blocks of all classes in use.
func TestAllAddressesOfTheHeap(t *testing.T) {
	r := rand.New(rand.NewSource(254))
	var before []api.Insn
	for _, words := range []int{1, 4, 5, 16, 17, 64, 65, 128} {
		for range 3 {
			before = append(before, asks(4, words)...)
		}
	}
	for _, words := range []int{4, 16, 64, 128} {
		before = append(before, asks(5, blockAt(words)+4*words*r.Intn(6))...)
	}
	for at := heap.Base - 64; at < heap.Base+heap.Size+64; at += 4 + 4*r.Intn(20) {
		l := slices.Concat(before, li(5, at), []api.Insn{{Op: "sh", Rs1: 5, Rs2: 5, Imm: 2}, {Op: "lw", Rd: 7, Rs1: 5}})
		b := newPair(t, code(l...))
		for b.step(t) {
		}
		b.outcome(t)
		b.words(t, at)
	}
}

// What is stored by one size is loaded by all others, and the bytes beside it stay.
func TestLoadsOfStores(t *testing.T) {
	r := rand.New(rand.NewSource(255))
	for range 30 {
		l := slices.Concat(asks(4, 60), []api.Insn{{Op: "addi", Rd: 9, Rs1: a0, Imm: 64}})
		for range 400 {
			l = append(l, li(6, wordByChance(r))...)
			for op := range strings.FieldsSeq(stores + " " + loads + " " + loads) {
				n := size(op)
				i := api.Insn{Op: op, Rs1: []int{2, 9}[r.Intn(2)], Imm: -n - n*r.Intn(32/n)}
				if strings.Contains(stores, op) {
					i.Rs2 = 6
				} else {
					i.Rd = []int{0, 5, 7, 8}[r.Intn(4)]
				}
				l = append(l, i)
			}
		}
		newPair(t, code(l...)).run(t, len(l))
	}
}

// Several faults at one time are one trap.
func TestSeveralFaults(t *testing.T) {
	l := slices.Concat(li(5, mem.End+1), []api.Insn{{Op: "lw", Rs1: 5}})
	traps(t, code(l...), 2) // no multiple, and behind the end
	l = slices.Concat(li(5, -3), []api.Insn{{Op: "sw", Rs1: 5, Rs2: 5}})
	traps(t, code(l...), 2)
	l = slices.Concat(li(5, api.MaxCode+2), []api.Insn{{Op: "jalr", Rd: 5, Rs1: 5}})
	traps(t, code(l...), 3) // no multiple, and behind the code
	traps(t, append(code(api.Insn{Op: "jal", Imm: 6}), 0, 0), 1)
	l = slices.Concat(asks(4, 129), asks(4, 1))
	traps(t, code(l...), 4)
}
