package asm_test

import (
	"fmt"
	"slices"
	"testing"

	"ferrule/api"
	"ferrule/asm"
	"ferrule/insn"
)

func label(name string) api.Asm { return api.Asm{Kind: api.AsLabel, Label: name} }

func pad(n int) api.Asm { return api.Asm{Kind: api.AsPad, N: n} }

func do(i api.Insn) api.Asm { return api.Asm{Kind: api.AsInsn, Insn: i} }

func branch(op string, rs1, rs2 int, name string) api.Asm {
	return api.Asm{Kind: api.AsBranch, Insn: api.Insn{Op: op, Rs1: rs1, Rs2: rs2}, Label: name}
}

// beq is a branch of which nothing but its label matters.
func beq(name string) api.Asm { return branch("beq", 1, 2, name) }

func jump(rd int, name string) api.Asm {
	return api.Asm{Kind: api.AsJump, Insn: api.Insn{Op: "jal", Rd: rd}, Label: name}
}

// short is the text of lines, cut where it is long.
func short(l []api.Asm) string {
	if len(l) > 20 {
		return fmt.Sprintf("%+v .. (%d lines)", l[:20], len(l))
	}
	return fmt.Sprintf("%+v", l)
}

// answers asks both calls, which tell one fault or none, and of a fault nothing else.
func answers(t *testing.T, l []api.Asm) (at []int, size int, words []uint32, e api.Errno) {
	t.Helper()
	at, size, e = asm.Place(l)
	words, other := asm.Assemble(l)
	if e != other {
		t.Fatalf("%s: Place tells %d, Assemble %d", short(l), int(e), int(other))
	}
	if e != api.OK && (len(at) > 0 || size != 0 || len(words) > 0) {
		t.Fatalf("%s: error %d, and %d places, %d bytes, %d words", short(l), int(e), len(at), size, len(words))
	}
	return at, size, words, e
}

// refused asks for a fault.
func refused(t *testing.T, l []api.Asm, want api.Errno) {
	t.Helper()
	if _, _, _, e := answers(t, l); e != want {
		t.Fatalf("%s: error %d, not %d", short(l), int(e), int(want))
	}
}

// byWords holds what both calls tell of lines against the chapter's words, and tells these.
func byWords(t *testing.T, l []api.Asm) (telling, api.Errno) {
	t.Helper()
	at, size, words, e := answers(t, l)
	want, p := plainFault(l)
	if e != want {
		t.Fatalf("%s: error %d, not %d", short(l), int(e), int(want))
	}
	if e != api.OK {
		return p, e
	}
	if size != p.size || !slices.Equal(at, p.at) {
		t.Fatalf("%s: %d bytes, not %d; at %v, not %v", short(l), size, p.size, at, p.at)
	}
	if 4*len(words) != size {
		t.Fatalf("%s: %d words of %d bytes", short(l), len(words), size)
	}
	lines := labelLines(l)
	for k, line := range l {
		end := size
		if k+1 < len(l) {
			end = at[k+1]
		}
		holdsLine(t, line, at[k], at[lines[line.Label]], words[at[k]/4:end/4])
	}
	asShortAsCanBe(t, l, lines, append(slices.Clone(at), size))
	return p, e
}

// taken asks that nothing is against lines, and holds them against the chapter's words.
func taken(t *testing.T, l []api.Asm) telling {
	t.Helper()
	p, e := byWords(t, l)
	if e != api.OK {
		t.Fatalf("%s: error %d", short(l), int(e))
	}
	return p
}

// holdsLine decodes the words of a line that stands at a place: it does what it must, and comes to its label.
func holdsLine(t *testing.T, line api.Asm, at, to int, words []uint32) {
	t.Helper()
	var want []api.Insn
	switch line.Kind {
	case api.AsInsn:
		want = []api.Insn{line.Insn}
	case api.AsPad:
		want = slices.Repeat([]api.Insn{{Op: "addi"}}, max(line.N, 0))
	case api.AsJump:
		want = []api.Insn{{Op: "jal", Rd: line.Insn.Rd, Imm: to - at}}
	case api.AsBranch:
		i := api.Insn{Op: line.Insn.Op, Rs1: line.Insn.Rs1, Rs2: line.Insn.Rs2, Imm: to - at}
		want = []api.Insn{i}
		if len(words) > 1 {
			i.Op, i.Imm = opposites()[i.Op], 8
			want = []api.Insn{i, {Op: "jal", Imm: to - (at + 4)}}
		}
	}
	if len(words) != len(want) {
		t.Fatalf("%+v at %d: %d words, not %d", line, at, len(words), len(want))
	}
	for k, w := range words {
		if i, e := insn.Decode(w); i != want[k] || e != api.OK {
			t.Fatalf("%+v at %d: %+v (%d), not %+v", line, at, i, int(e), want[k])
		}
	}
}

// asShortAsCanBe asks P23.3 itself of where lines stand, and what is behind them.
func asShortAsCanBe(t *testing.T, l []api.Asm, lines map[string]int, at []int) {
	t.Helper()
	for k, line := range l {
		if line.Kind != api.AsBranch {
			continue
		}
		way, isLong := at[lines[line.Label]]-at[k], at[k+1]-at[k] == 8
		if isLong && lines[line.Label] > k {
			way -= 4
		}
		if isLong != tooFar(way) {
			t.Fatalf("%s: the branch %d is long: %v, but would go %d", short(l), k, isLong, way)
		}
	}
}
