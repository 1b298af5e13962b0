package low_test

import (
	"math"
	"math/big"
	"math/rand"
	"testing"

	"ferrule/low"
)

// from0 is a number modulo 2^32, from 0 on, as a number without bounds.
func from0(n int) *big.Int {
	return new(big.Int).Mod(big.NewInt(int64(n)), new(big.Int).Lsh(big.NewInt(1), 32))
}

// word is a number as a word, as a number without bounds.
func word(n int) *big.Int {
	w := from0(n)
	if w.Cmp(big.NewInt(math.MaxInt32)) > 0 {
		w.Sub(w, new(big.Int).Lsh(big.NewInt(1), 32))
	}
	return w
}

// texts are the names of all comparisons.
func texts() []string { return []string{"eq", "ne", "lt", "ge", "ltu", "geu"} }

// asked tells whether a comparison holds, as the chapter has it.
func asked(text string, a, b int) bool {
	signed, unsigned := word(a).Cmp(word(b)), from0(a).Cmp(from0(b))
	return map[string]bool{"eq": signed == 0, "ne": signed != 0, "lt": signed < 0, "ge": signed >= 0, "ltu": unsigned < 0, "geu": unsigned >= 0}[text]
}

func wantHolds(t *testing.T, a, b int) {
	t.Helper()
	for _, text := range texts() {
		if yes, known := low.Holds(text, a, b); !known || yes != asked(text, a, b) {
			t.Errorf("%s of %d and %d: %v, %v", text, a, b, yes, known)
		}
	}
}

// edges are numbers at the ends of words and of int, and around them.
func edges() []int {
	list := []int{math.MaxInt, math.MinInt, math.MaxInt - 1, math.MinInt + 1}
	for _, bits := range []int{0, 1, 4, 11, 16, 30, 31, 32, 33, 48, 62} {
		for off := -2; off <= 2; off++ {
			list = append(list, 1<<bits+off, -1<<bits+off)
		}
	}
	return list
}

func TestHoldsAtTheEdges(t *testing.T) {
	for _, a := range edges() {
		for _, b := range edges() {
			wantHolds(t, a, b)
		}
	}
}

func TestHoldsByChance(t *testing.T) {
	chance := rand.New(rand.NewSource(17))
	for range 20000 {
		a, b := int(chance.Uint64())>>chance.Intn(64), int(chance.Uint64())>>chance.Intn(64)
		wantHolds(t, a, b)
		wantHolds(t, a, a)
		wantHolds(t, a, a+chance.Intn(3)-1)
	}
}

func TestHoldsExamples(t *testing.T) {
	for _, c := range []struct {
		text string
		a, b int
		yes  bool
	}{
		{"ltu", 1, -1, true}, {"lt", 1, -1, false}, {"ge", 1, -1, true}, {"geu", 1, -1, false},
		{"eq", 5, 5, true}, {"ne", 5, 5, false}, {"eq", 5, 6, false}, {"ne", 5, 6, true},
		{"lt", 5, 5, false}, {"ge", 5, 5, true}, {"ltu", 5, 5, false}, {"geu", 5, 5, true},
		{"eq", 1 << 32, 0, true}, {"eq", -1, 1<<32 - 1, true}, {"lt", 1 << 31, 0, true}, {"ltu", 1 << 31, 0, false}, {"lt", math.MinInt32, math.MaxInt32, true},
	} {
		if yes, known := low.Holds(c.text, c.a, c.b); yes != c.yes || !known {
			t.Errorf("%s of %d and %d: %v, %v", c.text, c.a, c.b, yes, known)
		}
	}
}

// otherTexts are names of no comparison.
func otherTexts() []string {
	return []string{"", "e", "q", "EQ", "Eq", " eq", "eq ", "eqq", "eq\x00", "n", "l", "g", "gt", "le", "gtu", "leu", "ltuu", "geuu", "lts", "slt", "sltu", "add", "xor", "main", "==", "<", "\xff", "eq,ne", "neq"}
}

func TestHoldsOfOthers(t *testing.T) {
	for _, text := range otherTexts() {
		for _, a := range []int{0, 1, -1, math.MaxInt, math.MinInt} {
			for _, b := range []int{0, 1, -1, math.MaxInt, math.MinInt} {
				if yes, known := low.Holds(text, a, b); yes || known {
					t.Errorf("%q of %d and %d: %v, %v", text, a, b, yes, known)
				}
			}
		}
	}
}
