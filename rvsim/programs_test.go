package rvsim_test

import (
	"slices"
	"testing"

	"ferrule/api"
)

// Programs with loops, calls, and loads and stores in the stack and in blocks of the heap.

// The sum of the numbers of the input, up to the first 0.
func TestSumOfTheInput(t *testing.T) {
	words := code(
		api.Insn{Op: "addi", Rd: a7, Imm: 3},
		api.Insn{Op: "ecall"},
		api.Insn{Op: "beq", Rs1: a0, Imm: 12},
		api.Insn{Op: "add", Rd: 8, Rs1: 8, Rs2: a0},
		api.Insn{Op: "jal", Imm: -12},
		api.Insn{Op: "add", Rd: a0, Rs1: 8},
		api.Insn{Op: "addi", Rd: a7, Imm: 1},
		api.Insn{Op: "ecall"},
		api.Insn{Op: "addi", Rd: a7, Imm: 6},
		api.Insn{Op: "ecall"},
	)
	runs(t, words, []int{1, 2, 3, 4, -50, 1 << 32}, api.Outcome{Kind: api.OutExit, Code: -40, Print: []int{-40}})
	runs(t, words, nil, api.Outcome{Kind: api.OutExit, Print: []int{0}})
}

// A number of Fibonacci's, by calls of a function that calls itself: jal goes there, jalr back, and what is still needed is in the stack.
func TestCallsWithinOneAnother(t *testing.T) {
	words := code(
		api.Insn{Op: "addi", Rd: a7, Imm: 3},
		api.Insn{Op: "ecall"},
		api.Insn{Op: "jal", Rd: 1, Imm: 20}, // to 28
		api.Insn{Op: "addi", Rd: a7, Imm: 1},
		api.Insn{Op: "ecall"},
		api.Insn{Op: "addi", Rd: a7, Imm: 6},
		api.Insn{Op: "ecall"},
		api.Insn{Op: "addi", Rd: 5, Imm: 2}, // 28: the function
		api.Insn{Op: "bge", Rs1: a0, Rs2: 5, Imm: 8},
		api.Insn{Op: "jalr", Rs1: 1},
		api.Insn{Op: "addi", Rd: 2, Rs1: 2, Imm: -12}, // 40
		api.Insn{Op: "sw", Rs1: 2, Rs2: 1},
		api.Insn{Op: "sw", Rs1: 2, Rs2: a0, Imm: 4},
		api.Insn{Op: "addi", Rd: a0, Rs1: a0, Imm: -1},
		api.Insn{Op: "jal", Rd: 1, Imm: -28},
		api.Insn{Op: "sw", Rs1: 2, Rs2: a0, Imm: 8},
		api.Insn{Op: "lw", Rd: a0, Rs1: 2, Imm: 4},
		api.Insn{Op: "addi", Rd: a0, Rs1: a0, Imm: -2},
		api.Insn{Op: "auipc", Rd: 6}, // 72
		api.Insn{Op: "jalr", Rd: 1, Rs1: 6, Imm: -43},
		api.Insn{Op: "lw", Rd: 5, Rs1: 2, Imm: 8},
		api.Insn{Op: "add", Rd: a0, Rs1: a0, Rs2: 5},
		api.Insn{Op: "lw", Rd: 1, Rs1: 2},
		api.Insn{Op: "addi", Rd: 2, Rs1: 2, Imm: 12},
		api.Insn{Op: "jalr", Rs1: 1},
	)
	for n, want := range []int{0, 1, 1, 2, 3, 5, 8, 13, 21, 34, 55, 89, 144} {
		runs(t, words, []int{n}, api.Outcome{Kind: api.OutExit, Code: want, Print: []int{want}})
	}
}

// Calls without an end come to where the stack does, and to OutTrap there.
func TestStackIsFull(t *testing.T) {
	words := code(
		api.Insn{Op: "addi", Rd: 2, Rs1: 2, Imm: -2048},
		api.Insn{Op: "sw", Rs1: 2, Rs2: 1},
		api.Insn{Op: "jal", Rd: 1, Imm: -8},
	)
	runs(t, words, nil, api.Outcome{Kind: api.OutTrap})
	o, n := made(t, words).Run(100000)
	if o.Kind != api.OutTrap || n != 256*3+2 {
		t.Fatal(told(o), n)
	}
}

// The numbers of the input, up to the first 0, in blocks each of which tells where the one ahead of it is, so that they come out the other way round; then the blocks are let go.
func TestBlocksInALine(t *testing.T) {
	words := code(
		api.Insn{Op: "addi", Rd: a7, Imm: 3}, // 0
		api.Insn{Op: "ecall"},
		api.Insn{Op: "beq", Rs1: a0, Imm: 36}, // to 44
		api.Insn{Op: "add", Rd: 9, Rs1: a0},
		api.Insn{Op: "addi", Rd: a0, Imm: 2},
		api.Insn{Op: "addi", Rd: a7, Imm: 4},
		api.Insn{Op: "ecall"},
		api.Insn{Op: "sw", Rs1: a0, Rs2: 9},
		api.Insn{Op: "sw", Rs1: a0, Rs2: 8, Imm: 4},
		api.Insn{Op: "add", Rd: 8, Rs1: a0},
		api.Insn{Op: "jal", Imm: -40},
		api.Insn{Op: "beq", Rs1: 8, Imm: 40}, // 44, to 84
		api.Insn{Op: "lw", Rd: a0, Rs1: 8},
		api.Insn{Op: "addi", Rd: a7, Imm: 2},
		api.Insn{Op: "ecall"},
		api.Insn{Op: "add", Rd: a0, Rs1: 8},
		api.Insn{Op: "lw", Rd: 8, Rs1: 8, Imm: 4},
		api.Insn{Op: "addi", Rd: a7, Imm: 5},
		api.Insn{Op: "ecall"},
		api.Insn{Op: "jal", Imm: -32}, // 76
		api.Insn{Op: "ebreak"},
		api.Insn{Op: "addi", Rd: a7, Imm: 6}, // 84
		api.Insn{Op: "addi", Rd: a0, Imm: 101},
		api.Insn{Op: "ecall"},
	)
	runs(t, words, []int{3, -1, 1 << 31, 7}, api.Outcome{Kind: api.OutExit, Code: 101, Print: []int{7, 1 << 31, 1<<32 - 1, 3}})
	var input, want []int
	for k := range 64 {
		input, want = append(input, k+1), append(want, 64-k)
	}
	runs(t, words, input, api.Outcome{Kind: api.OutExit, Code: 101, Print: want})
	runs(t, words, append(input, 5), api.Outcome{Kind: api.OutMemory})
	runs(t, words, nil, api.Outcome{Kind: api.OutExit, Code: 101})
}

// Bytes and halves in the stack, sorted by exchanges, until none is needed.
func TestSortsHalves(t *testing.T) {
	many := 12
	var l []api.Insn
	l = append(l, api.Insn{Op: "addi", Rd: 8, Rs1: 2, Imm: -2 * many}, api.Insn{Op: "addi", Rd: a7, Imm: 3})
	for k := range many {
		l = append(l, api.Insn{Op: "ecall"}, api.Insn{Op: "sh", Rs1: 8, Rs2: a0, Imm: 2 * k})
	}
	l = append(l,
		api.Insn{Op: "addi", Rd: 5}, // whether one was exchanged
		api.Insn{Op: "addi", Rd: 6, Rs1: 8},
		api.Insn{Op: "addi", Rd: 7, Rs1: 2, Imm: -2},
		api.Insn{Op: "lh", Rd: 28, Rs1: 6},
		api.Insn{Op: "lh", Rd: 29, Rs1: 6, Imm: 2},
		api.Insn{Op: "bge", Rs1: 29, Rs2: 28, Imm: 16},
		api.Insn{Op: "sh", Rs1: 6, Rs2: 29},
		api.Insn{Op: "sh", Rs1: 6, Rs2: 28, Imm: 2},
		api.Insn{Op: "addi", Rd: 5, Imm: 1},
		api.Insn{Op: "addi", Rd: 6, Rs1: 6, Imm: 2},
		api.Insn{Op: "bltu", Rs1: 6, Rs2: 7, Imm: -28},
		api.Insn{Op: "bne", Rs1: 5, Imm: -44},
		api.Insn{Op: "addi", Rd: a7, Imm: 1},
	)
	for k := range many {
		l = append(l, api.Insn{Op: "lhu", Rd: a0, Rs1: 8, Imm: 2 * k}, api.Insn{Op: "ecall"})
	}
	l = append(l, asks(6, 0)...)
	input := []int{5, -3, 1 << 15, 9, 65535, 0, 7, 7, -32767, 32767, 1 << 16, 12}
	var want []int
	for _, n := range input {
		want = append(want, int(int16(n)))
	}
	slices.Sort(want)
	for k := range want {
		want[k] = int(uint16(want[k]))
	}
	runs(t, code(l...), input, api.Outcome{Kind: api.OutExit, Print: want})
}

// Primes below 100, by bytes in a block.
func TestPrimes(t *testing.T) {
	l := asks(4, 25)
	l = append(l,
		api.Insn{Op: "addi", Rd: 8, Rs1: a0},
		api.Insn{Op: "addi", Rd: 9, Imm: 2},
		api.Insn{Op: "addi", Rd: 18, Imm: 100},
		api.Insn{Op: "add", Rd: 5, Rs1: 8, Rs2: 9}, // 32
		api.Insn{Op: "lbu", Rd: 6, Rs1: 5},
		api.Insn{Op: "bne", Rs1: 6, Imm: 40}, // 40, to 80
		api.Insn{Op: "addi", Rd: a0, Rs1: 9},
		api.Insn{Op: "addi", Rd: a7, Imm: 1},
		api.Insn{Op: "ecall"},
		api.Insn{Op: "mul", Rd: 7, Rs1: 9, Rs2: 9},      // 56
		api.Insn{Op: "bge", Rs1: 7, Rs2: 18, Imm: 20},   // 60, to 80
		api.Insn{Op: "add", Rd: 5, Rs1: 8, Rs2: 7},      // 64
		api.Insn{Op: "sb", Rs1: 5, Rs2: 9},              // 68
		api.Insn{Op: "add", Rd: 7, Rs1: 7, Rs2: 9},      // 72
		api.Insn{Op: "jal", Imm: -16},                   // 76, to 60
		api.Insn{Op: "addi", Rd: 9, Rs1: 9, Imm: 1},     // 80
		api.Insn{Op: "bltu", Rs1: 9, Rs2: 18, Imm: -52}, // 84, to 32
	)
	l = append(l, asks(6, 0)...)
	var want []int
	for n := 2; n < 100; n++ {
		prime := true
		for k := 2; k < n; k++ {
			prime = prime && n%k != 0
		}
		if prime {
			want = append(want, n)
		}
	}
	runs(t, code(l...), nil, api.Outcome{Kind: api.OutExit, Print: want})
}
