package heap

import (
	"math"
	"slices"
	"testing"

	"ferrule/api"
)

// P9.2, and Live of P9.3 behind each step

func TestExample(t *testing.T) {
	h := New()
	live(t, h, 0, 0, 0, 0)
	take(t, h, 3, Base)
	live(t, h, 1, 0, 0, 0)
	take(t, h, 4, Base+16)
	live(t, h, 2, 0, 0, 0)
	free(t, h, api.OK, Base)
	live(t, h, 1, 0, 0, 0)
	take(t, h, 1, Base)
	live(t, h, 2, 0, 0, 0)
	take(t, h, 5, Base+1024)
	live(t, h, 2, 1, 0, 0)
}

func TestEachClassByItsLeastAndItsMostWords(t *testing.T) {
	for class, c := range written {
		h := New()
		want := make([]int, 4)
		for block, words := range []int{c.least, c.most, c.most, c.least} {
			take(t, h, words, at(class, block))
			want[class]++
			live(t, h, want...)
		}
	}
}

func TestAllBlocksOfAClassAndOneMore(t *testing.T) {
	for class, c := range written {
		h := New()
		want := make([]int, 4)
		for block := range c.blocks {
			take(t, h, c.least, at(class, block))
			want[class]++
			live(t, h, want...)
		}
		for range 2 {
			refuse(t, h, c.least, api.ErrFull)
			refuse(t, h, c.most, api.ErrFull)
			live(t, h, want...)
		}
		// The other classes have room still: none stands in for another.
		for other, d := range written {
			if other != class {
				take(t, h, d.most, d.first)
			}
		}
		refuse(t, h, c.most, api.ErrFull)
		free(t, h, api.OK, c.last)
		take(t, h, c.most, c.last)
		refuse(t, h, c.most, api.ErrFull)
	}
}

func TestTheLeastBlockThatIsNotInUse(t *testing.T) {
	for class, c := range written {
		h := full(t)
		want := []int{64, 32, 16, 8}
		for _, gone := range [][]int{{0}, {c.blocks - 1}, {3}, {5, 2}, {1, 4, 6}, {c.blocks - 1, 0, 3}, {7, 6, 5, 4, 3, 2, 1, 0}} {
			for _, block := range gone {
				free(t, h, api.OK, at(class, block))
				want[class]--
				live(t, h, want...)
			}
			for _, block := range slices.Sorted(slices.Values(gone)) {
				take(t, h, c.least, at(class, block))
				want[class]++
				live(t, h, want...)
			}
			refuse(t, h, c.most, api.ErrFull)
		}
	}
}

func TestOneAmidOthers(t *testing.T) {
	h := New()
	for block := range 5 {
		take(t, h, 10, at(1, block))
	}
	free(t, h, api.OK, at(1, 3), at(1, 1))
	take(t, h, 16, at(1, 1))
	take(t, h, 5, at(1, 3))
	take(t, h, 7, at(1, 5))
	free(t, h, api.OK, at(1, 4), at(1, 5), at(1, 0))
	take(t, h, 7, at(1, 0))
	take(t, h, 7, at(1, 4))
	take(t, h, 7, at(1, 5))
	live(t, h, 0, 6, 0, 0)
}

func TestClassesByTurns(t *testing.T) {
	h := New()
	for block := range 8 {
		for class, c := range written {
			take(t, h, c.most, at(class, block))
		}
		live(t, h, block+1, block+1, block+1, block+1)
	}
	refuse(t, h, 65, api.ErrFull)
	for block := range 8 {
		for class := range written {
			free(t, h, api.OK, at(3-class, block))
		}
		live(t, h, 7-block, 7-block, 7-block, 7-block)
	}
	for _, c := range written {
		take(t, h, c.least, c.first)
		free(t, h, api.OK, c.first)
	}
	live(t, h, 0, 0, 0, 0)
}

func TestFirstAndLastBlockAreLetGo(t *testing.T) {
	for class, c := range written {
		h := full(t)
		want := []int{64, 32, 16, 8}
		for _, block := range []int{c.first, c.last} {
			free(t, h, api.OK, block)
			want[class]--
			live(t, h, want...)
			free(t, h, api.ErrFree, block, block)
			live(t, h, want...)
		}
		take(t, h, c.most, c.first)
		take(t, h, c.most, c.last)
		refuse(t, h, c.most, api.ErrFull)
	}
}

func TestAllocOfWrongWords(t *testing.T) {
	for _, h := range []*Heap{New(), full(t)} {
		before := h.Live(0)
		for _, words := range wrongWords {
			refuse(t, h, words, api.ErrArg)
		}
		if h.Live(0) != before {
			t.Error("something is in use of words that no class is for")
		}
	}
	h := New()
	refuse(t, h, 129, api.ErrArg)
	take(t, h, 0, written[0].first)
	take(t, h, 128, written[3].first)
}

// noBlocks are addresses at which no block begins.
func noBlocks() []int {
	l := []int{
		math.MinInt, math.MinInt + Base, math.MinInt32, -Base, -16, -4, -1, 0, 1, 4, 16, 1024, Base - 512, Base - 16, Base - 4, Base - 1,
		Base + Size, Base + Size + 4, Base + Size + 16, Base + Size + 512, 2 * Base, 1<<32 + Base, math.MaxInt32, math.MaxInt - 3, math.MaxInt,
	}
	for _, c := range written {
		for _, block := range []int{c.first, c.last} {
			l = append(l, block+1, block+2, block+3, block+4, block+8, block+4*c.most-4, block+4*c.most-1)
		}
	}
	return l
}

func TestFreeOfWhatIsNoBlock(t *testing.T) {
	h, none := full(t), New()
	for _, a := range noBlocks() {
		free(t, h, api.ErrFree, a)
		free(t, none, api.ErrFree, a)
	}
	live(t, h, 64, 32, 16, 8)
	live(t, none, 0, 0, 0, 0)
}

func TestFreeOfEachAddress(t *testing.T) {
	h := full(t)
	starts := map[int]struct{}{}
	for class, c := range written {
		for block := range c.blocks {
			starts[at(class, block)] = struct{}{}
		}
	}
	for a := Base - 600; a < Base+Size+600; a++ {
		want := api.ErrFree
		if _, ok := starts[a]; ok {
			want = api.OK
		}
		free(t, h, want, a)
	}
	live(t, h, 0, 0, 0, 0)
}

func TestFreeOfWhatIsNotInUse(t *testing.T) {
	h := New()
	for class, c := range written {
		for block := range c.blocks {
			free(t, h, api.ErrFree, at(class, block))
		}
	}
	live(t, h, 0, 0, 0, 0)
	take(t, h, 2, at(0, 0))
	free(t, h, api.ErrFree, at(0, 1), at(1, 0), at(2, 0), at(3, 0))
	live(t, h, 1, 0, 0, 0)
	free(t, h, api.OK, at(0, 0))
	free(t, h, api.ErrFree, at(0, 0), at(0, 0))
	live(t, h, 0, 0, 0, 0)
	take(t, h, 2, at(0, 0))
	free(t, h, api.OK, at(0, 0))
}

func TestLiveOfWhatIsNoClass(t *testing.T) {
	for _, h := range []*Heap{New(), full(t)} {
		for _, class := range []int{math.MinInt, math.MinInt32, -64, -4, -3, -2, -1, 4, 5, 8, 64, 1 << 32, 1<<32 + 1, math.MaxInt32, math.MaxInt} {
			if n := h.Live(class); n != 0 {
				t.Errorf("Live(%d) = %d", class, n)
			}
		}
	}
}

func TestHeapsStandByThemselves(t *testing.T) {
	one, two := New(), New()
	take(t, one, 1, Base)
	take(t, one, 1, Base+16)
	live(t, two, 0)
	within(t, two, Base, 1, false)
	free(t, two, api.ErrFree, Base)
	take(t, two, 1, Base)
	free(t, one, api.OK, Base)
	live(t, one, 1)
	live(t, two, 1)
	within(t, two, Base, 1, true)
	within(t, one, Base, 1, false)
}

func TestHeapThatNoCallMade(t *testing.T) {
	var none *Heap
	for _, h := range []*Heap{none, {}, new(Heap)} {
		for range 2 {
			for _, words := range append([]int{0, 1, 4, 5, 128}, wrongWords...) {
				refuse(t, h, words, api.ErrNil)
				within(t, h, Base, words, false)
			}
			for _, a := range append([]int{Base, at(1, 0), at(2, 0), at(3, 7)}, noBlocks()...) {
				free(t, h, api.ErrNil, a)
				within(t, h, a, 1, false)
			}
			live(t, h, 0, 0, 0, 0, 0)
			if h.Live(-1) != 0 || h.Live(math.MaxInt) != 0 || h.Live(math.MinInt) != 0 {
				t.Error("something is in use of what is no class")
			}
		}
	}
}
