package insn_test

import (
	"math/rand"
	"testing"

	"ferrule/api"
	"ferrule/insn"
)

// P22.2: words that no instruction has, each for one cause.
func TestIllegal(t *testing.T) {
	for _, w := range []uint32{
		0, 0xffffffff, 1, 2, 0x7f, 0x80000000, 0x7fffffff,
		0xfff10090, 0xfff10091, 0xfff10092, // the words of 32 bits end with two 1s
		0x0000000f, 0x0ff0000f, 0x0000100f, 0x8330000f, // FENCE and its like
		0x00001067, 0x00007067, // jalr with another f3
		0x00003083, 0x00006083, 0x00007083, // loads of 64 bits
		0x02009093, 0x40009093, 0x80009093, 0x06205093, 0x0200d093, 0x6000d093, 0xc000d093, 0x4200d093, // shifts with other bits above
		0x00002063, 0x00003063, // branches that ask nothing
		0x00003023, 0x00004023, 0x00007023, // stores of 64 bits and more
		0x40001033, 0x40002033, 0x40003033, 0x40004033, 0x40006033, 0x40007033, 0x42000033, 0x04000033, 0x80000033, 0x20000033, 0x42005033, // other f7
		0x00001073, 0x30001073, 0x00002073, 0xc0002073, 0x00005073, // CSR
		0x10500073, 0x30200073, 0x00200073, 0x12000073, 0x00000173, 0x00008073, 0x001000f3, 0x00108073, // system's others
		0x0000001b, 0x0000003b, 0x0000002f, 0x00000007, 0x00000027, 0x00000053, 0x0000000b, 0x0000002b, 0x0000005b, 0x0000007b, // op of other sets
	} {
		wantDecoded(t, w, false)
	}
}

// P22.2, P22.3: all of op, f3 and f7, the rest having none, all, or others of their bits.
func TestNumbersOfAll(t *testing.T) {
	r := rand.New(rand.NewSource(225))
	const rest = 0x01ff8f80
	counts := map[string]int{}
	for op := range uint32(128) {
		for f3 := range uint32(8) {
			for f7 := range uint32(128) {
				w := op | f3<<12 | f7<<25
				for _, other := range []uint32{0, rest, 1 << 20, r.Uint32() & rest} {
					if decodes(t, w|other) && other == 0 {
						i, _ := insn.Decode(w)
						counts[i.Op]++
					}
				}
			}
		}
	}
	// How many of these numbers each form has: those of op, by f3, and by f7.
	many := map[string]int{"U": 8 * 128, "J": 8 * 128, "I": 128, "B": 128, "S": 128, "shift": 1, "R": 1, "ecall": 1}
	for _, p := range table {
		if counts[p.name] != many[p.form] {
			t.Errorf("%s: %d, not %d", p.name, counts[p.name], many[p.form])
		}
	}
}

// P22.2: the shifts' bits above, all of them, for each number of bits to shift by.
func TestShiftsAbove(t *testing.T) {
	for _, f3 := range []uint32{1, 5} {
		for above := range uint32(128) {
			for by := range uint32(32) {
				w := above<<25 | by<<20 | 7<<15 | f3<<12 | 9<<7 | 19
				wantDecoded(t, w, above == 0 || above == 32 && f3 == 5)
			}
		}
	}
}

// P22.2: the two words of form E, with each bit turned, each two, and each three.
func TestSystemTurned(t *testing.T) {
	const call, stop = 0x73, 0x100073
	for _, w := range []uint32{call, stop} {
		wantDecoded(t, w, true)
		for a := range 32 {
			one := w ^ 1<<a
			if is := decodes(t, one); is && one != call && one != stop && one&0x7f == 0x73 {
				t.Errorf("%#08x", one)
			}
			for b := range a {
				two := one ^ 1<<b
				decodes(t, two)
				for c := range b {
					decodes(t, two^1<<c)
				}
			}
		}
	}
	r := rand.New(rand.NewSource(226))
	for range 20000 {
		if w := r.Uint32()&^0x7f | call; w != call && w != stop {
			wantDecoded(t, w, false)
		}
	}
}

// P22.2, P22.3: words of each instruction with single bits turned.
func TestTurned(t *testing.T) {
	r := rand.New(rand.NewSource(227))
	for _, p := range table {
		for n := range 60 {
			i := byChance(r, p)
			switch n {
			case 0:
				i = api.Insn{Op: p.name}
			case 1:
				i = full(p)
			}
			w := p.word(i)
			wantDecoded(t, w, true)
			for at, b := range p.bits {
				if is := decodes(t, w^1<<at); b.field != "" && !is {
					t.Fatalf("%+v: bit %d", i, at)
				}
			}
		}
	}
}

// P22.2, P22.3: words made by chance, of which many have an instruction's op.
func TestWordsByChance(t *testing.T) {
	r := rand.New(rand.NewSource(228))
	ops := []uint32{55, 23, 111, 103, 3, 19, 99, 35, 51, 0x73}
	some := 0
	for n := range 400000 {
		w := r.Uint32()
		if n%4 > 0 {
			w = w&^0x7f | ops[r.Intn(len(ops))]
		}
		if n%8 > 5 {
			w &^= 0xbc << 24
		}
		if decodes(t, w) {
			some++
		}
	}
	if some < 100000 || some > 300000 {
		t.Error(some)
	}
}

// P22.2, P22.3: words one behind the other, from both ends, and from the midst on.
func TestWordsInARow(t *testing.T) {
	for _, from := range []uint32{0, 1 << 31, 1 << 16, 0xfff10000, ^uint32(0) - 20000} {
		for n := range uint32(20000) {
			decodes(t, from+n)
		}
	}
	wantDecoded(t, 0, false)
	wantDecoded(t, 1<<32-1, false)
}
