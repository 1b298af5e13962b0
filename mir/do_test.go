package mir

import (
	"math"
	"math/big"
	"math/rand"
	"testing"
)

// names are all that Do knows.
func names() []string {
	return []string{"add", "sub", "mul", "mulh", "mulhu", "div", "divu", "rem", "remu", "and", "or", "xor", "sll", "srl", "sra", "slt", "sltu"}
}

func whole(n int) *big.Int { return big.NewInt(int64(n)) }

// from0 is a number modulo 2^32, from 0 on.
func from0(x *big.Int) *big.Int { return new(big.Int).Mod(x, whole(1<<32)) }

// wordOf is a number as a word.
func wordOf(x *big.Int) int {
	m := int(from0(x).Int64())
	if m >= 1<<31 {
		return m - 1<<32
	}
	return m
}

// down is a quotient rounded down.
func down(x, y *big.Int) *big.Int {
	q, r := new(big.Int).QuoRem(x, y, new(big.Int))
	if r.Sign() != 0 && (r.Sign() < 0) != (y.Sign() < 0) {
		q.Sub(q, whole(1))
	}
	return q
}

func power(n int) *big.Int { return new(big.Int).Lsh(whole(1), uint(n)) }

func yes(is bool) *big.Int {
	if is {
		return whole(1)
	}
	return whole(0)
}

// bitwise puts a result's bits together, one by one.
func bitwise(x, y *big.Int, bit func(a, b uint) uint) *big.Int {
	out := new(big.Int)
	for k := range 32 {
		out.SetBit(out, k, bit(from0(x).Bit(k), from0(y).Bit(k)))
	}
	return out
}

// divides tells quotient and rest after the words of the document.
func divides(x, y *big.Int) (*big.Int, *big.Int) {
	if y.Sign() == 0 {
		return whole(-1), x
	}
	q := new(big.Int).Quo(x, y)
	return q, new(big.Int).Sub(x, new(big.Int).Mul(q, y))
}

// belongs tells what Do must tell, by whole numbers.
func belongs(op string, a, b int) int {
	x, y := whole(wordOf(whole(a))), whole(wordOf(whole(b)))
	ux, uy := from0(x), from0(y)
	sum := new(big.Int)
	by := int(new(big.Int).Mod(y, whole(32)).Int64())
	q, r := divides(x, y)
	uq, ur := divides(ux, uy)
	told := map[string]*big.Int{
		"add": sum.Add(x, y), "sub": new(big.Int).Sub(x, y), "mul": new(big.Int).Mul(x, y),
		"mulh": down(new(big.Int).Mul(x, y), power(32)), "mulhu": down(new(big.Int).Mul(ux, uy), power(32)),
		"div": q, "rem": r, "divu": uq, "remu": ur,
		"and": bitwise(x, y, func(a, b uint) uint { return a * b }),
		"or":  bitwise(x, y, func(a, b uint) uint { return max(a, b) }),
		"xor": bitwise(x, y, func(a, b uint) uint { return (a + b) % 2 }),
		"sll": new(big.Int).Mul(x, power(by)), "srl": down(ux, power(by)), "sra": down(x, power(by)),
		"slt": yes(x.Cmp(y) < 0), "sltu": yes(ux.Cmp(uy) < 0),
	}
	return wordOf(told[op])
}

func holdDo(t *testing.T, op string, a, b int) {
	t.Helper()
	got, ok := Do(op, a, b)
	if want := belongs(op, a, b); got != want || !ok {
		t.Fatalf("Do(%s, %d, %d) = %d, %v, not %d", op, a, b, got, ok, want)
	}
}

func TestDoExamples(t *testing.T) {
	for _, c := range []struct {
		op      string
		a, b, v int
	}{
		{"mulhu", -1, -1, -2}, {"div", -7, 2, -3}, {"sra", -1, 33, -1},
		{"add", math.MaxInt32, 1, math.MinInt32}, {"sub", math.MinInt32, 1, math.MaxInt32}, {"mul", 1 << 16, 1 << 16, 0}, {"mul", 1 << 16, 1 << 15, math.MinInt32},
		{"mulh", -1, 1, -1}, {"mulh", -1, -1, 0}, {"mulh", math.MinInt32, math.MinInt32, 1 << 30}, {"mulhu", math.MinInt32, 2, 1},
		{"div", 5, 0, -1}, {"div", -5, 0, -1}, {"div", 0, 0, -1}, {"divu", 5, 0, -1}, {"rem", -5, 0, -5}, {"remu", -5, 0, -5}, {"rem", 5, 0, 5},
		{"div", math.MinInt32, -1, math.MinInt32}, {"rem", math.MinInt32, -1, 0}, {"divu", math.MinInt32, -1, 0}, {"remu", math.MinInt32, -1, math.MinInt32},
		{"rem", -7, 2, -1}, {"rem", 7, -2, 1}, {"divu", -1, 2, math.MaxInt32}, {"remu", -1, 10, 5},
		{"and", -1, 6, 6}, {"or", -8, 3, -5}, {"xor", -1, 1, -2},
		{"sll", 1, 31, math.MinInt32}, {"sll", 1, 32, 1}, {"sll", 1, -1, math.MinInt32}, {"sll", 3, 33, 6},
		{"srl", -1, 31, 1}, {"srl", -1, 32, -1}, {"srl", -1, -1, 1}, {"srl", -8, 1, math.MaxInt32 - 3}, {"sra", -8, 1, -4}, {"sra", -1, -1, -1}, {"sra", 8, 35, 1},
		{"slt", -1, 0, 1}, {"slt", 0, -1, 0}, {"slt", 3, 3, 0}, {"sltu", -1, 0, 0}, {"sltu", 0, -1, 1}, {"sltu", 3, 3, 0},
		{"add", 1 << 32, 5, 5}, {"div", 1<<32 - 7, 1<<32 + 2, -3}, {"slt", 1 << 32, 1, 1}, {"sltu", -1 << 32, 1, 1}, {"sll", 1, 1<<32 + 1, 2}, {"rem", 7, 1 << 32, 7},
		{"add", math.MaxInt, math.MaxInt, -2}, {"add", math.MinInt, 3, 3},
	} {
		if got, ok := Do(c.op, c.a, c.b); got != c.v || !ok {
			t.Errorf("Do(%s, %d, %d) = %d, %v, not %d", c.op, c.a, c.b, got, ok, c.v)
		}
	}
}

func TestDoByDefinition(t *testing.T) {
	edges := []int{0, 1, 2, 3, 5, 31, 32, 33, 63, 64, 255, 1<<16 - 1, 1 << 16, 1<<31 - 1, 1 << 31, 1<<31 + 1, 1<<32 - 1, 1 << 32, 1<<32 + 1, 1 << 40, math.MaxInt}
	for _, op := range names() {
		for _, a := range edges {
			for _, b := range edges {
				holdDo(t, op, a, b)
				holdDo(t, op, -a, b)
				holdDo(t, op, a, -b)
				holdDo(t, op, -a, -b)
			}
		}
		holdDo(t, op, math.MinInt, math.MinInt)
	}
	chance := rand.New(rand.NewSource(12))
	for range 4000 {
		for _, op := range names() {
			holdDo(t, op, int(chance.Uint64())>>chance.Intn(63), int(chance.Uint64())>>chance.Intn(63))
		}
	}
}

func TestDoOfOtherNames(t *testing.T) {
	for _, op := range []string{"", "eq", "ADD", "Add", "add ", " add", "addi", "mulhsu", "neg", "not", "sl", "sltiu", "+", "ne", "lt", "ge", "\x00", "remuu"} {
		if got, ok := Do(op, 7, 3); got != 0 || ok {
			t.Errorf("Do(%q) = %d, %v", op, got, ok)
		}
	}
}
