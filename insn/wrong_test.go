package insn_test

import (
	"math/rand"
	"slices"
	"strings"
	"testing"

	"ferrule/api"
	"ferrule/insn"
)

// P22.1: names that are none, with fields that any form would take, and with others.
func TestNames(t *testing.T) {
	none := []string{
		"", " ", "\x00", "\n", "-", "0", "x0", "é", "\xff", strings.Repeat("add", 30000),
		"fence", "fence.i", "fence.tso", "csrrw", "csrrs", "csrrc", "csrrwi", "csrrsi", "csrrci", "wfi", "mret", "sret", "scall", "sbreak",
		"nop", "li", "la", "mv", "not", "neg", "seqz", "snez", "j", "jr", "ret", "call", "tail", "beqz", "bnez", "bgt", "ble", "bgtu", "bleu",
		"subi", "sltui", "muli", "addw", "addiw", "subw", "mulw", "divw", "sllw", "slliw", "ld", "sd", "lwu", "ldu", "lb.", "sll.i", "lr.w", "c.addi", "andn",
		"mulsu", "mulhus", "mulu", "divsu", "remsu", "bequ", "bneu", "sbu", "shu", "jali", "luip", "auip", "U", "I", "E", "shift",
	}
	for _, p := range table {
		n := p.name
		none = append(none, strings.ToUpper(n), strings.ToUpper(n[:1])+n[1:], n[:len(n)-1]+strings.ToUpper(n[len(n)-1:]))
		none = append(none, " "+n, n+" ", "\t"+n, n+"\n", n+"\x00", n[:1]+" "+n[1:], n+".", n+"_", n+n, n+" x1")
		for at := range n {
			none = append(none, n[:at]+n[at+1:], n[:at]+"é"+n[at+1:], n[:at])
		}
	}
	some := 0
	for _, n := range none {
		if _, is := named(n); is { // what is left of a name without a letter may be another one
			some++
			continue
		}
		for _, i := range []api.Insn{{Op: n}, {Op: n, Rd: 1}, {Op: n, Rd: 1, Rs1: 2, Rs2: 3}, {Op: n, Imm: 4}, {Op: n, Rd: -1, Rs1: 32, Rs2: 99, Imm: 1 << 40}} {
			wantEncoded(t, i, false)
		}
	}
	if some > len(none)/10 {
		t.Error(some)
	}
}

// P22.1: a register or a number that a form does not have is 0.
func TestWithout(t *testing.T) {
	r := rand.New(rand.NewSource(229))
	refused := 0
	for _, p := range table {
		for _, field := range fields() {
			if p.has(field) {
				continue
			}
			for _, n := range slices.Concat([]int{1, 2, 3, 4, 5, 8, 15, 16, 30, 31, 32, 33, 64, 1024, 2048, 4096, -1, -2, -4, -31, -32, -4096}, far()) {
				for _, i := range []api.Insn{{Op: p.name}, full(p), byChance(r, p)} {
					wantEncoded(t, i, true)
					set(&i, field, n)
					wantEncoded(t, i, false)
					refused++
				}
			}
		}
	}
	if refused == 0 {
		t.Error("none")
	}
}

// P22.1: what each form has.
func TestHas(t *testing.T) {
	for form, has := range map[string][]string{
		"U": {"rd", "imm"}, "J": {"rd", "imm"}, "I": {"rd", "rs1", "imm"}, "shift": {"rd", "rs1", "imm"},
		"B": {"rs1", "rs2", "imm"}, "S": {"rs1", "rs2", "imm"}, "R": {"rd", "rs1", "rs2"}, "ecall": nil, "ebreak": nil,
	} {
		for _, p := range table {
			if p.form != form {
				continue
			}
			for _, field := range fields() {
				i := api.Insn{Op: p.name}
				set(&i, field, 4)
				wantEncoded(t, i, slices.Contains(has, field))
			}
		}
	}
}

// P22.1: several faults at one time, and fields of all kinds made by chance.
func TestSeveralFaults(t *testing.T) {
	for _, i := range []api.Insn{
		{}, {Rd: 1}, {Imm: 4}, {Op: "Addi", Rd: 32, Imm: 5000}, {Op: "addi", Rd: -1, Rs1: 32, Rs2: 1, Imm: 2048},
		{Op: "beq", Rd: 1, Rs1: 32, Imm: 3}, {Op: "lui", Rd: 32, Rs1: 1, Imm: -1}, {Op: "ecall", Rd: 1, Rs1: 1, Rs2: 1, Imm: 1}, {Op: "ebreak", Rs2: 1},
		{Op: "add", Rs2: 32, Imm: 1}, {Op: "slli", Rs2: 5, Imm: 32}, {Op: "sw", Rd: 8, Rs1: -1, Imm: -2049}, {Op: "jal", Rd: 32, Rs1: 32, Rs2: 32, Imm: 1<<20 - 1},
	} {
		wantEncoded(t, i, false)
	}
	r := rand.New(rand.NewSource(230))
	odd := slices.Concat([]int{-1, 32, 33, 2048, -2049, 3, 1 << 20}, far())
	some := 0
	for range 100000 {
		i := byChance(r, table[r.Intn(len(table))])
		for _, field := range fields() {
			switch r.Intn(8) {
			case 0:
				set(&i, field, odd[r.Intn(len(odd))])
			case 1:
				set(&i, field, r.Intn(70)-5)
			case 2:
				set(&i, field, int(r.Uint64())>>r.Intn(64))
			}
		}
		if r.Intn(8) == 0 {
			i.Op = table[r.Intn(len(table))].name
		}
		if encodes(t, i) {
			some++
		}
	}
	if some < 5000 || some > 60000 {
		t.Error(some)
	}
}

// Rule 5: the same is answered whenever it is asked, whatever was asked in between.
func TestAgain(t *testing.T) {
	r := rand.New(rand.NewSource(231))
	for range 300 {
		i, w := byChance(r, table[r.Intn(len(table))]), r.Uint32()
		if r.Intn(3) == 0 {
			i.Rd -= r.Intn(40)
		}
		word, ok := insn.Encode(i)
		told, e := insn.Decode(w)
		for range 20 {
			insn.Encode(byChance(r, table[r.Intn(len(table))]))
			insn.Encode(api.Insn{Op: "none"})
			insn.Decode(r.Uint32())
			if again, is := insn.Encode(i); again != word || is != ok {
				t.Fatalf("Encode(%+v) = %#08x, %v, then %#08x, %v", i, word, ok, again, is)
			}
			if again, other := insn.Decode(w); again != told || other != e {
				t.Fatalf("Decode(%#08x) = %+v, %d, then %+v, %d", w, told, int(e), again, int(other))
			}
		}
	}
}
