package rvsim_test

import (
	"math"
	"slices"
	"testing"

	"ferrule/api"
	"ferrule/heap"
	"ferrule/mem"
)

// P25.3: each ecall.

func TestPrint(t *testing.T) {
	var l []api.Insn
	var words, fromZero, both []int
	for _, v := range ends() {
		l = slices.Concat(l, asks(1, v), calls(2), calls(1))
		words = append(words, v)
		fromZero = append(fromZero, int(uint32(v)))
		both = append(both, v, int(uint32(v)), v)
	}
	runs(t, code(l...), nil, api.Outcome{Kind: api.OutTrap, Print: both})
	for call, want := range map[int][]int{1: words, 2: fromZero} {
		l = nil
		for _, v := range ends() {
			l = append(l, asks(call, v)...)
		}
		runs(t, code(append(l, asks(6, 0)...)...), nil, api.Outcome{Kind: api.OutExit, Print: want})
	}
	runs(t, joined(asks(2, -1), asks(1, -1), asks(2, -1<<31), asks(1, -1<<31), asks(6, 0)), nil, api.Outcome{Kind: api.OutExit, Print: []int{1<<32 - 1, -1, 1 << 31, -1 << 31}})
}

// readsAll is code that reads and prints so many numbers.
func readsAll(many int) []uint32 {
	var l []api.Insn
	for range many {
		l = slices.Concat(l, asks(3, 99), calls(1))
	}
	return code(append(l, asks(6, 0)...)...)
}

func TestRead(t *testing.T) {
	input := []int{5, -5, 0, 1<<31 - 1, -1 << 31}
	for many := range 9 {
		want := append(slices.Clone(input), 0, 0, 0, 0)[:many]
		runs(t, readsAll(many), input, api.Outcome{Kind: api.OutExit, Print: want})
	}
	runs(t, readsAll(3), nil, api.Outcome{Kind: api.OutExit, Print: []int{0, 0, 0}})
	runs(t, readsAll(3), []int{}, api.Outcome{Kind: api.OutExit, Print: []int{0, 0, 0}})
}

// Numbers of the input that are no words count modulo 2^32.
func TestReadOfWideNumbers(t *testing.T) {
	for _, c := range [][2]int{
		{1 << 31, -1 << 31}, {1<<31 + 1, -1<<31 + 1}, {-1<<31 - 1, 1<<31 - 1}, {1<<32 - 1, -1}, {1 << 32, 0}, {1<<32 + 5, 5}, {-1 << 32, 0}, {-1<<32 - 1, -1},
		{1 << 62, 0}, {1<<62 + 7, 7}, {math.MaxInt, -1}, {math.MaxInt - 1, -2}, {math.MinInt, 0}, {math.MinInt + 3, 3}, {0x0123456789abcdef, 0x89abcdef - 1<<32}, {0x0123456776543210, 0x76543210},
	} {
		runs(t, readsAll(2), []int{c[0], 8}, api.Outcome{Kind: api.OutExit, Print: []int{c[1], 8}})
	}
}

func TestExit(t *testing.T) {
	for _, v := range ends() {
		b := newPair(t, joined(asks(1, 3), asks(6, v), asks(1, 4)))
		b.run(t, 100)
		same(t, b.m, 100, api.Outcome{Kind: api.OutExit, Code: v, Print: []int{3}}, 10)
	}
	runs(t, code(api.Insn{Op: "addi", Rd: a0, Imm: 7}, api.Insn{Op: "addi", Rd: a7, Imm: 1}, api.Insn{Op: "ecall"}, api.Insn{Op: "addi", Rd: a7, Imm: 6}, api.Insn{Op: "ecall"}), nil, api.Outcome{Kind: api.OutExit, Code: 7, Print: []int{7}})
}

func TestDepth(t *testing.T) {
	for _, v := range []int{0, 7, -1} {
		b := newPair(t, joined(asks(1, 3), asks(7, v), asks(1, 4)))
		b.run(t, 100)
		same(t, b.m, 100, api.Outcome{Kind: api.OutDepth, Print: []int{3}}, 10)
	}
}

// Each other number is OutTrap.
func TestOtherCalls(t *testing.T) {
	others := []int{-1 << 31, -1<<31 + 1, -1<<31 + 6, 1<<31 - 1, 1 << 30, 256 + 1, 65536 + 6, 1<<30 + 1, 1<<20 + 1, -256 + 6}
	for n := -300; n < 300; n += 3 {
		others = append(others, n, n*n*n)
	}
	for n := -9; n < 40; n++ {
		others = append(others, n)
	}
	for _, n := range others {
		if n >= 1 && n <= 7 {
			continue
		}
		for _, given := range []int{0, 4, -1} {
			words := joined(asks(1, 3), asks(4, 4), li(7, -9), []api.Insn{{Op: "sw", Rs1: a0, Rs2: 7}}, asks(n, given))
			m := made(t, words)
			same(t, m, len(words)+5, api.Outcome{Kind: api.OutTrap, Print: []int{3}}, len(words))
			if m.Pc() != 4*len(words)-4 || m.Reg(a0) != given || m.Reg(a7) != n {
				t.Fatalf("ecall %d: pc %d, %d, %d", n, m.Pc(), m.Reg(a0), m.Reg(a7))
			}
		}
	}
	for _, n := range []int{-1 << 31, -1, 0, 8, 9, 10, 64, 93, 1<<31 - 1} {
		l := slices.Concat(asks(1, 3), calls(3), asks(4, 4), asks(n, 4))
		traps(t, code(l...), len(l)-1, 6)
	}
}

// An ecall leaves all registers but a0, and it only where the chapter says so.
func TestOtherRegistersStay(t *testing.T) {
	var fill []api.Insn
	for k := 1; k < 32; k++ {
		fill = append(fill, li(k, 3*k-1<<20)...)
	}
	for call := 1; call <= 7; call++ {
		l := slices.Concat(fill, asks(4, 9), []api.Insn{{Op: "add", Rd: 7, Rs1: a0}}, calls(call))
		if call == 4 {
			l = slices.Concat(fill, asks(4, 9))
		}
		b := newPair(t, code(l...), 1<<20+5)
		for range l {
			b.step(t)
		}
		b.all(t)
		want := b.m.Reg(7)
		switch call {
		case 3:
			want = 1<<20 + 5
		case 4:
			want = blockAt(9)
		}
		if b.m.Reg(a0) != want || b.m.Pc() != 4*len(l) {
			t.Fatalf("ecall %d: a0 %d, pc %d", call, b.m.Reg(a0), b.m.Pc())
		}
	}
}

// Blocks of each number of words, each as heap tells it.
func TestAlloc(t *testing.T) {
	h := heap.New()
	var l []api.Insn
	var want []int
	for words := 0; words <= 128; words++ {
		at, e := h.Alloc(words)
		if e != api.OK {
			continue
		}
		l = slices.Concat(l, asks(4, words), calls(1))
		want = append(want, at)
	}
	runs(t, code(l...), nil, api.Outcome{Kind: api.OutTrap, Print: want})
	if want[0] != heap.Base || len(want) < 40 {
		t.Fatal(want)
	}
}

// Words of which no class has so many.
func TestAllocOfTooMany(t *testing.T) {
	for _, words := range []int{129, 130, 256, 257, 1 << 16, 1<<31 - 1, -1, -2, -128, -1 << 31} {
		l := slices.Concat(asks(1, 3), asks(4, 1), asks(4, words))
		traps(t, code(l...), len(l)-1)
		l = slices.Concat(asks(4, 128), asks(4, words))
		traps(t, code(l...), len(l)-1)
	}
}

// A class that is full is OutMemory, whatever the others have; one that is none is OutTrap nevertheless.
func TestFull(t *testing.T) {
	for _, class := range [][3]int{{64, 0, 4}, {32, 5, 16}, {16, 17, 64}, {8, 65, 128}} {
		var l []api.Insn
		for k := range class[0] {
			l = append(l, asks(4, class[1+k%2])...)
		}
		for _, words := range class[1:] {
			full := slices.Concat(l, asks(1, 3), asks(4, words), asks(1, 4))
			b := newPair(t, code(full...))
			b.run(t, len(full))
			same(t, b.m, 100, api.Outcome{Kind: api.OutMemory, Print: []int{3}}, len(full)-5)
		}
		bad := slices.Concat(l, asks(4, 129))
		traps(t, code(bad...), len(bad)-1)
		bad[len(bad)-1] = api.Insn{Op: "ebreak"}
		traps(t, code(bad...), len(bad)-1)
		again := slices.Concat(l, asks(5, blockAt(class[2])+4*class[2]*(class[0]-1)), asks(4, class[2]), calls(1), asks(6, 0))
		runs(t, code(again...), nil, api.Outcome{Kind: api.OutExit, Print: []int{blockAt(class[2]) + 4*class[2]*(class[0]-1)}})
	}
	var all []api.Insn
	for range 8 {
		all = append(all, asks(4, 128)...)
	}
	runs(t, joined(all, asks(4, 64), calls(1), asks(4, 65)), nil, api.Outcome{Kind: api.OutMemory, Print: []int{blockAt(64)}})
}

func TestFree(t *testing.T) {
	at := blockAt(5)
	runs(t, joined(asks(4, 5), asks(5, at), calls(1), asks(4, 16), calls(1), asks(6, 0)), nil, api.Outcome{Kind: api.OutExit, Print: []int{at, at}})
	runs(t, joined(asks(4, 5), asks(4, 5), asks(4, 5), asks(5, at+64), asks(5, at), asks(4, 7), calls(1), asks(4, 8), calls(1), asks(4, 9), calls(1), asks(6, 0)), nil, api.Outcome{Kind: api.OutExit, Print: []int{at, at + 64, at + 3*64}})
	for _, wrong := range []int{0, 4, 1, -1, -4, -1 << 31, 1<<31 - 1, heap.Base, heap.Base + 16, heap.Base - 4, heap.Base + heap.Size, at + 1, at + 2, at + 4, at - 4, at + 60, at + 64, mem.Stack, mem.End, mem.End - 4} {
		l := slices.Concat(asks(1, 2), asks(4, 5), asks(5, wrong))
		traps(t, code(l...), len(l)-1)
	}
	l := slices.Concat(asks(4, 5), asks(5, at), asks(5, at))
	traps(t, code(l...), len(l)-1)
	l = asks(5, at)
	traps(t, code(l...), len(l)-1)
}

// What a block had stays, when it is let go and taken again; the memory of one is as it was.
func TestBlocksKeepTheirWords(t *testing.T) {
	at := blockAt(9)
	l := slices.Concat(asks(4, 9), li(5, at), li(6, -77), []api.Insn{{Op: "sw", Rs1: 5, Rs2: 6, Imm: 32}}, asks(5, at), asks(4, 10), []api.Insn{{Op: "lw", Rd: a0, Rs1: 5, Imm: 32}}, calls(1), asks(6, 0))
	runs(t, code(l...), nil, api.Outcome{Kind: api.OutExit, Print: []int{-77}})
}
