package insn_test

import (
	"math"
	"math/rand"
	"testing"

	"ferrule/api"
	"ferrule/insn"
)

// table is the plain telling, made once.
var table = plains()

// named tells the plain instruction of a name.
func named(name string) (plain, bool) {
	for _, p := range table {
		if p.name == name {
			return p, true
		}
	}
	return plain{}, false
}

// encodes holds what Encode tells against the plain telling (P22.1), and Decode of that against the instruction (P22.3). It answers whether there is such an instruction.
func encodes(t *testing.T, i api.Insn) bool {
	t.Helper()
	w, ok := insn.Encode(i)
	p, is := named(i.Op)
	if !is || !p.takes(i) {
		if w != 0 || ok {
			t.Fatalf("Encode(%+v) = %#x, %v: it is none", i, w, ok)
		}
		return false
	}
	if want := p.word(i); w != want || !ok {
		t.Fatalf("Encode(%+v) = %#08x, %v, not %#08x", i, w, ok, want)
	}
	if back, e := insn.Decode(w); back != i || e != api.OK {
		t.Fatalf("Decode(%#08x) = %+v, %d, not %+v", w, back, int(e), i)
	}
	return true
}

// decodes holds what Decode tells against the plain telling (P22.2), and Encode of that against the word (P22.3). It answers whether there is an instruction.
func decodes(t *testing.T, w uint32) bool {
	t.Helper()
	i, e := insn.Decode(w)
	for k := range table {
		if !table[k].hasWord(w) {
			continue
		}
		if want := table[k].read(w); i != want || e != api.OK {
			t.Fatalf("Decode(%#08x) = %+v, %d, not %+v", w, i, int(e), want)
		}
		if back, ok := insn.Encode(i); back != w || !ok {
			t.Fatalf("Encode(%+v) = %#08x, %v, not %#08x", i, back, ok, w)
		}
		return true
	}
	if i != (api.Insn{}) || e != api.ErrIllegal {
		t.Fatalf("Decode(%#08x) = %+v, %d: there is none", w, i, int(e))
	}
	return false
}

// wantEncoded asks that there is such an instruction, or none, and holds it against the plain telling.
func wantEncoded(t *testing.T, i api.Insn, want bool) {
	t.Helper()
	if encodes(t, i) != want {
		t.Fatalf("%+v: %v", i, !want)
	}
}

// wantDecoded asks that a word has an instruction, or none, and holds it against the plain telling.
func wantDecoded(t *testing.T, w uint32, want bool) {
	t.Helper()
	if decodes(t, w) != want {
		t.Fatalf("%#08x: %v", w, !want)
	}
}

// byChance makes an instruction that the form of p has.
func byChance(r *rand.Rand, p plain) api.Insn {
	i := api.Insn{Op: p.name, Imm: p.least + p.step*r.Intn((p.most-p.least)/p.step+1)}
	for _, field := range []string{"rd", "rs1", "rs2"} {
		if p.has(field) {
			set(&i, field, r.Intn(32))
		}
	}
	return i
}

// set changes one field of an instruction.
func set(i *api.Insn, field string, n int) {
	switch field {
	case "rd":
		i.Rd = n
	case "rs1":
		i.Rs1 = n
	case "rs2":
		i.Rs2 = n
	case "imm":
		i.Imm = n
	}
}

// fields are all that an instruction could have.
func fields() []string { return []string{"rd", "rs1", "rs2", "imm"} }

// far are numbers that no form has anywhere, some of which would be fine numbers, were they cut to fewer bits.
func far() []int {
	return []int{
		math.MinInt, math.MinInt + 1, math.MinInt + 8, math.MinInt32 - 1, math.MinInt32, math.MinInt32 + 4,
		math.MaxInt32 - 3, math.MaxInt32, math.MaxInt32 + 1, 1<<32 - 4, 1<<32 - 1, 1 << 32, 1<<32 + 1, 1<<32 + 8, -1 << 32, -1<<32 + 8,
		1 << 40, 1 << 62, math.MaxInt - 1, math.MaxInt,
	}
}
