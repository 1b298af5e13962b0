package layout_test

import (
	"math"
	"math/big"
	"math/rand"
	"testing"

	"ferrule/layout"
)

// P16.2.

func TestFits(t *testing.T) {
	for _, c := range []struct {
		n             int
		number, shift bool
	}{
		{0, true, true}, {1, true, true}, {-1, true, false}, {5, true, true},
		{30, true, true}, {31, true, true}, {32, true, false}, {33, true, false},
		{2046, true, false}, {2047, true, false}, {2048, false, false}, {2049, false, false},
		{-2047, true, false}, {-2048, true, false}, {-2049, false, false}, {-31, true, false}, {-32, true, false},
		{4095, false, false}, {4096, false, false}, {-4096, false, false}, {1 << 16, false, false},
		{1<<32 - 1, false, false}, {1 << 32, false, false}, {1<<32 + 5, false, false}, {-1 << 32, false, false}, {1 << 62, false, false},
		{1<<31 - 1, false, false}, {1 << 31, false, false}, {-1 << 31, false, false}, {-1<<31 - 1, false, false},
		{math.MaxInt, false, false}, {math.MinInt, false, false}, {math.MinInt + 1, false, false}, {math.MaxInt - 31, false, false},
	} {
		if got := layout.Fits(c.n, false); got != c.number {
			t.Errorf("%d: %v", c.n, got)
		}
		if got := layout.Fits(c.n, true); got != c.shift {
			t.Errorf("%d bits: %v", c.n, got)
		}
	}
	numbers, shifts := 0, 0
	for n := -70_000; n <= 70_000; n++ {
		if layout.Fits(n, false) {
			numbers++
		}
		if layout.Fits(n, true) {
			shifts++
		}
	}
	if numbers != 4096 || shifts != 32 {
		t.Errorf("%d numbers, %d numbers of bits", numbers, shifts)
	}
}

func TestSplit(t *testing.T) {
	const upMost = 1<<20 - 1
	for _, c := range []struct{ n, upper, lower int }{
		{0, 0, 0}, {1, 0, 1}, {-1, 0, -1}, {5, 0, 5},
		{2046, 0, 2046}, {2047, 0, 2047}, {2048, 1, -2048}, {2049, 1, -2047},
		{-2047, 0, -2047}, {-2048, 0, -2048}, {-2049, upMost, 2047}, {-2050, upMost, 2046},
		{4095, 1, -1}, {4096, 1, 0}, {4097, 1, 1}, {-4095, upMost, 1}, {-4096, upMost, 0}, {-4097, upMost, -1}, {6143, 1, 2047}, {6144, 2, -2048},
		{-1 << 31, 1 << 19, 0}, {-1<<31 + 1, 1 << 19, 1}, {-1<<31 - 1, 1 << 19, -1}, {-1<<31 + 2048, 1<<19 + 1, -2048},
		{1<<31 - 1, 1 << 19, -1}, {1<<31 - 2, 1 << 19, -2}, {1<<31 - 2048, 1 << 19, -2048}, {1<<31 - 2049, 1<<19 - 1, 2047}, {1 << 31, 1 << 19, 0}, {1<<31 + 1, 1 << 19, 1},
		{1<<32 - 1, 0, -1}, {1 << 32, 0, 0}, {1<<32 + 1, 0, 1}, {1<<32 - 2048, 0, -2048}, {1<<32 - 2049, upMost, 2047}, {1<<32 + 2047, 0, 2047}, {1<<32 + 2048, 1, -2048},
		{-1 << 32, 0, 0}, {-1<<32 - 1, 0, -1}, {-1<<32 + 1, 0, 1}, {5 << 32, 0, 0}, {7<<32 + 1<<31, 1 << 19, 0}, {0x123456789abcdef0, 0x9abce, -0x110},
		{math.MaxInt, 0, -1}, {math.MaxInt - 1, 0, -2}, {math.MaxInt - 2047, 0, -2048}, {math.MaxInt - 2048, upMost, 2047},
		{math.MinInt, 0, 0}, {math.MinInt + 1, 0, 1}, {math.MinInt + 2047, 0, 2047}, {math.MinInt + 2048, 1, -2048},
	} {
		if upper, lower := layout.Split(c.n); upper != c.upper || lower != c.lower {
			t.Errorf("%d: %d, %d, not %d, %d", c.n, upper, lower, c.upper, c.lower)
		}
		wantSplit(t, c.n)
	}
}

// wantSplit holds the parts of a number against it, modulo 2^32.
func wantSplit(t *testing.T, n int) {
	t.Helper()
	upper, lower := layout.Split(n)
	if lower < -2048 || lower > 2047 || upper < 0 || upper > 1<<20-1 {
		t.Fatalf("%d: %d, %d", n, upper, lower)
	}
	away := new(big.Int).Sub(big.NewInt(int64(upper)*4096+int64(lower)), big.NewInt(int64(n)))
	if away.Mod(away, big.NewInt(1<<32)).Sign() != 0 {
		t.Fatalf("%d: %d, %d come to %d", n, upper, lower, upper*4096+lower)
	}
}

func TestSplitOfMany(t *testing.T) {
	for n := -20_000; n <= 20_000; n++ {
		for _, from := range []int{0, 1 << 31, -1 << 31, 1 << 32, -1 << 32, 3 << 33} {
			wantSplit(t, from+n)
		}
	}
	for bit := range 63 {
		for near := -3; near <= 3; near++ {
			for _, n := range []int{1<<bit + near, -1<<bit + near, 1<<bit + 2048 + near, -1<<bit - 2048 + near} {
				wantSplit(t, n)
			}
		}
	}
	// The parts of one word are told of all numbers that are the same modulo 2^32.
	chance := rand.New(rand.NewSource(16))
	for range 200_000 {
		n := int(chance.Uint64()) >> chance.Intn(64)
		wantSplit(t, n)
		upper, lower := layout.Split(n)
		if u, l := layout.Split(int(int32(n))); u != upper || l != lower {
			t.Fatalf("%d: %d, %d, but of its word %d, %d", n, upper, lower, u, l)
		}
	}
}

// A lower part is a number that fits; one that fits has no upper part.
func TestSplitOfFitting(t *testing.T) {
	for n := -5000; n <= 5000; n++ {
		upper, lower := layout.Split(n)
		if !layout.Fits(lower, false) || layout.Fits(n, false) != (upper == 0) || upper == 0 && lower != n {
			t.Errorf("%d: %d, %d", n, upper, lower)
		}
	}
}
