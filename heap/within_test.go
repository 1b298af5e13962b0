package heap

import (
	"math"
	"testing"

	"ferrule/api"
)

// P9.3

func TestWithinABlock(t *testing.T) {
	for class, c := range written {
		h := New()
		take(t, h, c.least, c.first)
		end := c.first + 4*c.most
		within(t, h, c.first, 1, true)
		within(t, h, c.first, c.most-1, true)
		within(t, h, c.first, c.most, true)
		within(t, h, c.first, c.most+1, false)
		within(t, h, c.first+4, c.most-1, true)
		within(t, h, c.first+4, c.most, false)
		within(t, h, end-4, 1, true)
		within(t, h, end-4, 2, false)
		within(t, h, end-8, 2, true)
		within(t, h, end, 1, false)
		within(t, h, c.first-4, 1, false)
		within(t, h, c.first-4, 2, false)
		within(t, h, at(class, c.blocks-1), 1, false)
	}
}

func TestWithinTwoBlocks(t *testing.T) {
	for class, c := range written {
		h := full(t)
		for block := range c.blocks {
			within(t, h, at(class, block), c.most, true)
			within(t, h, at(class, block), c.most+1, false)
			within(t, h, at(class, block), 2*c.most, false)
			within(t, h, at(class, block+1)-4, 2, false)
			within(t, h, at(class, block+1)-4, 1, true)
		}
		within(t, h, c.last, c.most, true)
		within(t, h, c.behind-4, 1, true)
		within(t, h, c.behind-4, 2, false)
		within(t, h, c.behind, 1, class < 3) // the next class's first block
	}
}

func TestWithinABlockThatWasLetGo(t *testing.T) {
	for _, c := range written {
		h := New()
		within(t, h, c.first, 1, false)
		take(t, h, c.most, c.first)
		take(t, h, c.most, c.first+4*c.most)
		free(t, h, api.OK, c.first)
		within(t, h, c.first, 1, false)
		within(t, h, c.first, c.most, false)
		within(t, h, c.first+4*c.most-4, 1, false)
		within(t, h, c.first+4*c.most, c.most, true)
		take(t, h, c.least, c.first)
		within(t, h, c.first, c.most, true)
		within(t, h, c.first+4*c.most-4, 1, true)
	}
}

// Each address in the heap and around it, with each number of words about its block's end.
func TestWithinOfEachAddress(t *testing.T) {
	h := full(t)
	free(t, h, api.OK, at(0, 0), at(0, 9), at(0, 63), at(1, 0), at(1, 30), at(2, 15), at(3, 0), at(3, 4))
	gone := map[int]struct{}{at(0, 0): {}, at(0, 9): {}, at(0, 63): {}, at(1, 0): {}, at(1, 30): {}, at(2, 15): {}, at(3, 0): {}, at(3, 4): {}}
	left := map[int]int{} // of each word in a block that is in use, how many there are from it on
	for class, c := range written {
		for block := range c.blocks {
			from := at(class, block)
			if _, ok := gone[from]; ok {
				continue
			}
			for i := range c.most {
				left[from+4*i] = c.most - i
			}
		}
	}
	for a := Base - 1100; a < Base+Size+1100; a++ {
		n := left[a]
		for _, words := range []int{math.MinInt, -1, 0, 1, 2, n - 1, n, n + 1, 128, 129, Size / 4, math.MaxInt} {
			within(t, h, a, words, words >= 1 && words <= n)
		}
	}
}

func TestWithinOfWrongWords(t *testing.T) {
	h := full(t)
	for _, words := range []int{
		math.MinInt, math.MinInt + 1, math.MinInt32, -128, -4, -2, -1, 0, 129, 1 << 30, 1<<30 + 1, 1 << 32, 1<<32 + 1,
		1 << 61, 1<<61 + 1, 1<<62 - 1, 1 << 62, 1<<62 + 1, math.MaxInt/4 - Base/4, math.MaxInt / 4, math.MaxInt/4 + 1, math.MaxInt - Base, math.MaxInt - Base + 1, math.MaxInt - 1, math.MaxInt,
	} {
		for _, c := range written {
			within(t, h, c.first, words, false)
			within(t, h, c.first+4, words, false)
			within(t, h, c.last, words, false)
			within(t, h, c.behind-4, words, false)
		}
	}
}

func TestWithinOfFarAddresses(t *testing.T) {
	h := full(t)
	for _, a := range []int{
		math.MinInt, math.MinInt + 4, math.MinInt + Base, math.MinInt32, -Base, -4, 0, 4, Base - 4, Base + Size, Base + Size + 4,
		1<<32 + Base, 1<<62 + Base, math.MaxInt - 3, math.MaxInt - 7, math.MaxInt, math.MinInt + 1,
	} {
		for _, words := range []int{math.MinInt, -Base, -1, 0, 1, 2, 4, 128, Base, Base / 4, math.MaxInt} {
			within(t, h, a, words, false)
		}
	}
}
