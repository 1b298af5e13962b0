package mem_test

import (
	"bytes"
	"math"
	"testing"

	"ferrule/api"
	"ferrule/mem"
)

// sizes are those that numbers may have, in bytes.
var sizes = []int{1, 2, 4}

// wrongSizes are those that no number has.
var wrongSizes = []int{0, -1, -2, -4, -8, 3, 5, 6, 7, 8, 16, 255, 256, 257, 1<<32 + 1, 1<<32 + 4, math.MinInt32, math.MaxInt32, math.MinInt, math.MinInt + 1, math.MinInt + 4, math.MaxInt - 3, math.MaxInt - 1, math.MaxInt}

// farPlaces lie nowhere near the memory; some are multiples of all sizes, some of none.
var farPlaces = []int{
	-1 << 32, -1<<32 + 1, -end, -end - 1, -end + 4, 2 * end, 1 << 31, 1 << 32, 1<<32 + 4, 1<<32 + 1, 1<<32 + end - 4,
	math.MinInt32, math.MaxInt32, math.MaxInt32 - 3, math.MinInt, math.MinInt + 1, math.MinInt + 2, math.MinInt + 4, math.MinInt + end, math.MaxInt, math.MaxInt - 1, math.MaxInt - 3, math.MaxInt - 7, math.MaxInt - end + 1,
}

// numbers are both ends of a byte, a half, a word and an int, from 0 on and with a sign, and what is beside them.
func numbers() []int {
	l := []int{math.MinInt, math.MinInt + 1, math.MinInt + 255, math.MaxInt, math.MaxInt - 1, math.MaxInt - 255, 1<<62 + 0x01020304, -1<<62 - 0x01020304, 0x0123456789abcdef}
	for _, bits := range []int{0, 7, 8, 15, 16, 24, 31, 32, 33, 40, 62} {
		for by := -2; by <= 2; by++ {
			l = append(l, 1<<bits+by, -1<<bits+by)
		}
	}
	return l
}

// notMade are memories that New did not make, by their names.
func notMade() map[string]*mem.Memory {
	return map[string]*mem.Memory{"nil": nil, "plain": {}, "new": new(mem.Memory)}
}

func store(t *testing.T, m *mem.Memory, at, n, v int, want api.Errno) {
	t.Helper()
	if e := m.Store(at, n, v); e != want {
		t.Fatalf("Store(%d, %d, %d) = %d, not %d", at, n, v, int(e), int(want))
	}
}

func load(t *testing.T, m *mem.Memory, at, n int, signed bool, want int, e api.Errno) {
	t.Helper()
	if v, got := m.Load(at, n, signed); v != want || got != e {
		t.Fatalf("Load(%d, %d, %v) = %d, %d, not %d, %d", at, n, signed, v, int(got), want, int(e))
	}
}

// both loads from 0 on, and with a sign.
func both(t *testing.T, m *mem.Memory, at, n, unsigned, signed int) {
	t.Helper()
	load(t, m, at, n, false, unsigned, 0)
	load(t, m, at, n, true, signed, 0)
}

func refused(t *testing.T, m *mem.Memory, at, n int, e api.Errno) {
	t.Helper()
	load(t, m, at, n, false, 0, e)
	load(t, m, at, n, true, 0, e)
	for _, v := range []int{-1, 0, 0x01020304} {
		store(t, m, at, n, v, e)
	}
}

func empties(t *testing.T, m *mem.Memory) {
	t.Helper()
	if e := m.Clear(); e != 0 {
		t.Fatalf("Clear = %d", int(e))
	}
}

func copies(t *testing.T, m *mem.Memory, at, n int, want []byte) {
	t.Helper()
	got := m.Copy(at, n)
	if !bytes.Equal(got, want) {
		t.Fatalf("Copy(%d, %d) has %d bytes, not %d, or others: it begins with % x, not % x", at, n, len(got), len(want), got[:min(len(got), 16)], want[:min(len(want), 16)])
	}
}

// whole asks for every byte, by one Copy.
func whole(t *testing.T, m *mem.Memory, p plain) {
	t.Helper()
	all := m.Copy(0, end)
	if len(all) != end {
		t.Fatalf("the whole has %d bytes", len(all))
	}
	for at, b := range all {
		if p[at] != int(b) {
			t.Fatalf("the byte at %d is %d, not %d", at, b, p[at])
		}
	}
}

// byBytes asks for every byte, by a Load of each.
func byBytes(t *testing.T, m *mem.Memory, p plain) {
	t.Helper()
	for at := range end {
		if v, e := m.Load(at, 1, false); v != p[at] || e != 0 {
			t.Fatalf("Load(%d, 1, false) = %d, %d, not %d", at, v, int(e), p[at])
		}
	}
}

// alike asks for one number at an address, with a sign and without, of both.
func alike(t *testing.T, m *mem.Memory, p plain, at, n int) {
	t.Helper()
	for _, signed := range []bool{false, true} {
		v, e := p.load(at, n, signed)
		load(t, m, at, n, signed, v, e)
	}
}
