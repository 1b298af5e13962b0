package heap

import (
	"math"
	"testing"

	"ferrule/api"
)

// The classes as the document has them, written out anew so that the package's own table is not its judge: the least and the most words that one is asked by, how many blocks it has, and the addresses of the first, of the last, and just behind that.
var written = []struct{ least, most, blocks, first, last, behind int }{
	{0, 4, 64, 262144, 263152, 263168},
	{5, 16, 32, 263168, 265152, 265216},
	{17, 64, 16, 265216, 269056, 269312},
	{65, 128, 8, 269312, 272896, 273408},
}

// at is the address of a class's block.
func at(class, block int) int {
	return written[class].first + block*4*written[class].most
}

// wrongWords are those that no class is for.
var wrongWords = []int{-1, -2, -4, -128, -129, 129, 130, 256, 1 << 16, 1<<32 + 1, 1<<32 + 128, math.MinInt32, math.MaxInt32, math.MinInt, math.MinInt + 1, math.MaxInt - 1, math.MaxInt}

// take asks for a block, and for its address.
func take(t *testing.T, h *Heap, words, want int) {
	t.Helper()
	if got, e := h.Alloc(words); got != want || e != api.OK {
		t.Errorf("Alloc(%d) = %d, %d, not %d, 0", words, got, int(e), want)
	}
}

// refuse asks for a block that is not to be had.
func refuse(t *testing.T, h *Heap, words int, want api.Errno) {
	t.Helper()
	if got, e := h.Alloc(words); got != 0 || e != want {
		t.Errorf("Alloc(%d) = %d, %d, not 0, %d", words, got, int(e), int(want))
	}
}

// free lets blocks go, or asks why that can't be.
func free(t *testing.T, h *Heap, want api.Errno, blocks ...int) {
	t.Helper()
	for _, b := range blocks {
		if e := h.Free(b); e != want {
			t.Errorf("Free(%d) = %d, not %d", b, int(e), int(want))
		}
	}
}

// live asks how many blocks of each class are in use.
func live(t *testing.T, h *Heap, want ...int) {
	t.Helper()
	for class, n := range want {
		if got := h.Live(class); got != n {
			t.Errorf("Live(%d) = %d, not %d", class, got, n)
		}
	}
}

// within asks it.
func within(t *testing.T, h *Heap, at, words int, want bool) {
	t.Helper()
	if got := h.Within(at, words); got != want {
		t.Errorf("Within(%d, %d) = %v", at, words, got)
	}
}

// full is a heap all of whose blocks are in use.
func full(t *testing.T) *Heap {
	t.Helper()
	h := New()
	for class, c := range written {
		for block := range c.blocks {
			take(t, h, c.most, at(class, block))
		}
	}
	return h
}
