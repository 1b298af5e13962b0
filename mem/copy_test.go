package mem_test

import (
	"math/rand"
	"slices"
	"testing"

	"ferrule/api"
	"ferrule/mem"
)

// P24.2: Copy and Clear.

func TestCopy(t *testing.T) {
	m := mem.New()
	store(t, m, 8, 4, 0x04030201, api.OK)
	store(t, m, 12, 2, 0x0605, api.OK)
	store(t, m, end-1, 1, 0xff, api.OK)
	copies(t, m, 8, 1, []byte{1})
	copies(t, m, 8, 4, []byte{1, 2, 3, 4})
	copies(t, m, 9, 5, []byte{2, 3, 4, 5, 6})
	copies(t, m, 7, 9, []byte{0, 1, 2, 3, 4, 5, 6, 0, 0})
	copies(t, m, 0, 10, []byte{0, 0, 0, 0, 0, 0, 0, 0, 1, 2})
	copies(t, m, end-1, 1, []byte{255})
	copies(t, m, end-3, 3, []byte{0, 0, 255})
}

// From every place near the ends, of every number of bytes up to the end and beyond.
func TestCopyAroundTheEnds(t *testing.T) {
	m, p := filled(t)
	for at := -12; at <= 12; at++ {
		for n := -3; n <= 40; n++ {
			copies(t, m, at, n, p.copied(at, n))
			copies(t, m, end+at, n, p.copied(end+at, n))
		}
	}
	for at := range 3 {
		for n := end - 4; n <= end+4; n++ {
			copies(t, m, at, n, p.copied(at, n))
		}
	}
}

func TestCopyOfManyBytes(t *testing.T) {
	r := rand.New(rand.NewSource(242))
	m, p := filled(t)
	for range 60 {
		at := r.Intn(end)
		n := 1 + r.Intn(end-at)
		copies(t, m, at, n, p.copied(at, n))
	}
}

// What Copy answered is the asker's own.
func TestCopyIsNewMemory(t *testing.T) {
	m, p := filled(t)
	for _, c := range [][2]int{{0, 1}, {40, 8}, {end - 5, 5}, {mem.Stack - 100, 200}, {0, end}} {
		at, n := c[0], c[1]
		first := m.Copy(at, n)
		second := m.Copy(at, n)
		before := slices.Clone(first)
		for k := range n {
			store(t, m, at+k, 1, int(before[k])+1, p.store(at+k, 1, int(before[k])+1))
		}
		if !slices.Equal(first, before) || !slices.Equal(second, before) {
			t.Fatalf("%d bytes at %d: a later Store told in them", n, at)
		}
		room := first[:cap(first)]
		for k := range room {
			room[k] ^= 0xff
		}
		if !slices.Equal(second, before) {
			t.Fatalf("%d bytes at %d: two answers share them", n, at)
		}
		whole(t, m, p)
		clear(room)
	}
	held := m.Copy(0, end)
	before := slices.Clone(held)
	empties(t, m)
	if !slices.Equal(held, before) {
		t.Fatal("Clear told in what Copy had answered")
	}
}

// What lies behind an answer's length tells nothing of the memory behind it.
func TestCopyHasNoOthersBytesInItsSpareRoom(t *testing.T) {
	m, _ := filled(t)
	for n := 1; n < 70; n++ {
		l := m.Copy(1000, n)
		for _, b := range l[n:cap(l)] {
			if b != 0 {
				t.Fatalf("%d bytes have others behind them", n)
			}
		}
	}
}

func TestClear(t *testing.T) {
	m := mem.New()
	empties(t, m) // nothing was ever stored
	whole(t, m, zeros())
	for _, at := range []int{0, 1, mem.Stack, end - 1} {
		store(t, m, at, 1, -1, api.OK)
		empties(t, m)
		load(t, m, at, 1, false, 0, api.OK)
		whole(t, m, zeros())
	}
	m, _ = filled(t)
	for range 2 {
		empties(t, m)
		whole(t, m, zeros())
		byBytes(t, m, zeros())
	}
	store(t, m, 4, 4, 7, api.OK) // it is as a new one
	both(t, m, 4, 4, 7, 7)
	want := zeros()
	want[4] = 7
	whole(t, m, want)
}

// Each memory has bytes of its own.
func TestMemoriesAreApart(t *testing.T) {
	first, p := filled(t)
	second := mem.New()
	whole(t, second, zeros())
	store(t, second, 0, 4, 0x0a0b0c0d, api.OK)
	whole(t, first, p)
	empties(t, first)
	both(t, second, 0, 4, 0x0a0b0c0d, 0x0a0b0c0d)
	want := zeros()
	copy(want, []int{13, 12, 11, 10})
	whole(t, second, want)
	store(t, first, 8, 4, 0x01020304, api.OK)
	both(t, second, 8, 4, 0, 0)
	whole(t, mem.New(), zeros())
}
