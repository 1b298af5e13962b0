package rvsim_test

import (
	"math"
	"testing"

	"ferrule/api"
	"ferrule/mem"
)

// Great inputs: the most code, many steps, much that is printed and read, the whole stack.

// Code of MaxCode bytes whose words are all run, again and again.
func TestMostCodeAgainAndAgain(t *testing.T) {
	words, w := nothing(api.MaxCode/4), encoded(api.Insn{Op: "addi", Rd: 5, Rs1: 5, Imm: 1})
	for k := range words {
		words[k] = w
	}
	words[len(words)-1] = encoded(api.Insn{Op: "jal", Imm: 4 - api.MaxCode})
	m := made(t, words)
	steps := 50*len(words) + 3
	same(t, m, steps, api.Outcome{}, steps)
	if m.Reg(5) != 50*(len(words)-1)+3 || m.Pc() != 12 {
		t.Fatal(m.Reg(5), m.Pc())
	}
}

// All numbers of a long input are read and printed, until a 0 comes.
func TestLongInput(t *testing.T) {
	words := code(
		api.Insn{Op: "addi", Rd: a7, Imm: 3},
		api.Insn{Op: "ecall"},
		api.Insn{Op: "beq", Rs1: a0, Imm: 16},
		api.Insn{Op: "addi", Rd: a7, Imm: 1},
		api.Insn{Op: "ecall"},
		api.Insn{Op: "jal", Imm: -20},
		api.Insn{Op: "addi", Rd: a7, Imm: 6},
		api.Insn{Op: "ecall"},
	)
	input := make([]int, 200000)
	for k := range input {
		input[k] = k + 1 - 300000
	}
	same(t, made(t, words, input...), math.MaxInt, api.Outcome{Kind: api.OutExit, Print: input}, 6*len(input)+5)
}

// Each word of the stack is stored into, and loaded again from the other end.
func TestWholeStack(t *testing.T) {
	words := code(
		api.Insn{Op: "lui", Rd: 8, Imm: mem.Stack >> 12},
		api.Insn{Op: "mul", Rd: 6, Rs1: 8, Rs2: 8},
		api.Insn{Op: "xor", Rd: 6, Rs1: 6, Rs2: 8},
		api.Insn{Op: "sw", Rs1: 8, Rs2: 6},
		api.Insn{Op: "addi", Rd: 8, Rs1: 8, Imm: 4},
		api.Insn{Op: "bltu", Rs1: 8, Rs2: 2, Imm: -16},
		api.Insn{Op: "lui", Rd: 9, Imm: mem.Stack >> 12},
		api.Insn{Op: "lw", Rd: 5, Rs1: 8, Imm: -4},
		api.Insn{Op: "addi", Rd: 8, Rs1: 8, Imm: -4},
		api.Insn{Op: "add", Rd: a0, Rs1: a0, Rs2: 5},
		api.Insn{Op: "bltu", Rs1: 9, Rs2: 8, Imm: -12},
		api.Insn{Op: "addi", Rd: a7, Imm: 6},
		api.Insn{Op: "ecall"},
	)
	m := made(t, words)
	sum := int32(0)
	for at := mem.Stack; at < mem.End; at += 4 {
		sum += int32(at)*int32(at) ^ int32(at)
	}
	many := (mem.End - mem.Stack) / 4
	same(t, m, math.MaxInt, api.Outcome{Kind: api.OutExit, Code: int(sum)}, 9*many+4)
	for at := mem.Stack; at < mem.End; at += 4 {
		if v, e := m.Peek(at); v != int(int32(at)*int32(at)^int32(at)) || e != api.OK {
			t.Fatalf("Peek(%d) = %d, %d", at, v, int(e))
		}
	}
}

// Blocks are taken and let go many times.
func TestBlocksAgainAndAgain(t *testing.T) {
	words := joined(
		li(8, 20000),
		asks(4, 128), // 2 to 6
		[]api.Insn{{Op: "sw", Rs1: a0, Rs2: 8, Imm: 508}},
		calls(5),
		[]api.Insn{{Op: "addi", Rd: 8, Rs1: 8, Imm: -1}, {Op: "bne", Rs1: 8, Imm: -40}},
		calls(6),
	)
	m := made(t, words)
	same(t, m, math.MaxInt, api.Outcome{Kind: api.OutExit, Code: blockAt(128)}, 2+20000*11+3)
	if v, _ := m.Peek(blockAt(128) + 508); v != 1 {
		t.Fatal(v)
	}
}
