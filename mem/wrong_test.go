package mem_test

import (
	"math"
	"testing"

	"ferrule/api"
	"ferrule/mem"
)

// What is refused, the first of the chapter's list where several faults are there; and that nothing has changed by it.

// filled is a memory in which no word is 0, and the same told plainly.
func filled(t *testing.T) (*mem.Memory, plain) {
	t.Helper()
	m, p := mem.New(), zeros()
	for at := 0; at < end; at += 4 {
		v := at*2654435761 + 0x01010101
		store(t, m, at, 4, v, p.store(at, 4, v))
	}
	return m, p
}

func TestNoMemory(t *testing.T) {
	places := append([]int{0, 1, 4, mem.Stack, end - 4, end, end + 4, -1, -4}, farPlaces...)
	for name, m := range notMade() {
		for range 2 {
			for _, at := range places {
				for _, n := range append(sizes, wrongSizes...) {
					refused(t, m, at, n, api.ErrNil)
					if l := m.Copy(at, n); len(l) != 0 {
						t.Fatalf("%s: Copy(%d, %d) has %d bytes", name, at, n, len(l))
					}
				}
			}
			if l := m.Copy(0, end); len(l) != 0 {
				t.Fatalf("%s: the whole has %d bytes", name, len(l))
			}
			if e := m.Clear(); e != api.ErrNil {
				t.Fatalf("%s: Clear = %d", name, int(e))
			}
		}
	}
}

func TestWrongSizes(t *testing.T) {
	m, p := filled(t)
	for _, n := range wrongSizes {
		for _, at := range append([]int{0, 1, 3, 5, 6, 8, mem.Stack, end - 8, end - 4, end, end + 8, -8, -1, n}, farPlaces...) {
			refused(t, m, at, n, api.ErrArg)
		}
	}
	for n := -300; n <= 300; n++ {
		if n != 1 && n != 2 && n != 4 {
			refused(t, m, 840, n, api.ErrArg)
		}
	}
	whole(t, m, p)
}

// Every address around the memory's two ends, and around its middle.
func TestAddressesAroundTheEnds(t *testing.T) {
	m, p := filled(t)
	for _, middle := range []int{0, mem.Stack, end} {
		for at := middle - 70; at <= middle+70; at++ {
			for _, n := range sizes {
				switch {
				case (at%n+n)%n != 0:
					refused(t, m, at, n, api.ErrArg)
				case at < 0 || at >= end:
					refused(t, m, at, n, api.ErrNone)
				default:
					alike(t, m, p, at, n)
					store(t, m, at, n, at*n-3, p.store(at, n, at*n-3))
					alike(t, m, p, at, n)
				}
			}
		}
	}
	whole(t, m, p)
}

// End - 4 to End + 4, written out.
func TestAddressesAtTheEnd(t *testing.T) {
	m := mem.New()
	const none, arg = api.ErrNone, api.ErrArg
	for k, c := range [][3]api.Errno{ // of 1, 2 and 4 bytes
		{0, 0, 0}, {0, arg, arg}, {0, 0, arg}, {0, arg, arg},
		{none, none, none}, {none, arg, arg}, {none, none, arg}, {none, arg, arg}, {none, none, none},
	} {
		for i, n := range sizes {
			store(t, m, end-4+k, n, 0, c[i])
			load(t, m, end-4+k, n, true, 0, c[i])
		}
	}
	for k, c := range [][3]api.Errno{
		{none, none, none}, {none, arg, arg}, {none, none, arg}, {none, arg, arg}, {0, 0, 0}, {0, arg, arg}, {0, 0, arg},
	} {
		for i, n := range sizes {
			store(t, m, k-4, n, 0, c[i])
			load(t, m, k-4, n, true, 0, c[i])
		}
	}
}

func TestFarAddresses(t *testing.T) {
	m, p := filled(t)
	for _, at := range farPlaces {
		for _, n := range sizes {
			want := api.ErrNone
			if at&(n-1) != 0 {
				want = api.ErrArg
			}
			refused(t, m, at, n, want)
		}
	}
	for bits := 21; bits < 63; bits++ {
		for by := -4; by <= 4; by += 4 {
			refused(t, m, 1<<bits+by, 4, api.ErrNone)
			refused(t, m, -1<<bits+by, 4, api.ErrNone)
		}
	}
	whole(t, m, p)
}

// Copy of what does not lie in the memory, or of nothing.
func TestCopyOfNothing(t *testing.T) {
	m, p := filled(t)
	for _, c := range [][2]int{
		{0, 0}, {0, -1}, {0, math.MinInt}, {8, 0}, {8, -8}, {8, -4}, {end - 4, 0}, {end, 0}, {end, -1}, {end, -end}, {-1, 0}, {math.MaxInt, 0}, {math.MinInt, 0},
		{0, end + 1}, {1, end}, {-1, end}, {-1, end + 1}, {end, 1}, {end - 1, 2}, {end - 4, 5}, {end + 1, 1}, {-1, 1}, {-1, 2}, {-4, 4}, {-4, 8}, {-end, end}, {-end, end + 1}, {-end, 2 * end},
		{0, math.MaxInt}, {1, math.MaxInt}, {8, math.MaxInt - 7}, {8, math.MaxInt}, {end - 1, math.MaxInt}, {end, math.MaxInt}, {end, math.MaxInt - end + 1}, {-1, math.MaxInt}, {-end, math.MaxInt},
		{math.MaxInt, 1}, {math.MaxInt, 2}, {math.MaxInt, end}, {math.MaxInt, math.MaxInt}, {math.MaxInt - 3, 4}, {math.MaxInt - 3, 8}, {math.MaxInt, math.MinInt}, {math.MaxInt, -math.MaxInt},
		{math.MinInt, 1}, {math.MinInt, math.MaxInt}, {math.MinInt, math.MinInt}, {math.MinInt + 1, math.MaxInt}, {math.MinInt + end, end},
		{1 << 32, 4}, {1<<32 + 4, 4}, {0, 1 << 32}, {0, 1<<32 + 4}, {4, 1<<32 + 4}, {-1 << 32, 4}, {-1 << 32, 1<<32 + 4},
	} {
		copies(t, m, c[0], c[1], nil)
	}
	whole(t, m, p)
}
