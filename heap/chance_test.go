package heap

import (
	"math/rand"
	"testing"

	"ferrule/api"
)

// P9.4, and all of P9.2 and P9.3 with it: heaps that are used by chance are held against a list of each word's user.

// user tells of each word of the heap which block it is in, as its address, if that is in use; 0: in none.
type user [Size / 4]int

// wordOf is which word of the heap an address is.
func wordOf(at int) int { return (at - Base) / 4 }

// fits tells the class of so many words.
func fits(words int) int {
	class := 0
	for words > written[class].most {
		class++
	}
	return class
}

// free tells the least block of a class whose words nobody uses, or 0.
func (u *user) free(class int) int {
	for block := range written[class].blocks {
		if u[wordOf(at(class, block))] == 0 {
			return at(class, block)
		}
	}
	return 0
}

// set lets all of a block's words have a user, none of which has another than it should.
func (u *user) set(t *testing.T, class, block, from, to int) {
	t.Helper()
	for i := range written[class].most {
		w := wordOf(block) + i
		if u[w] != from {
			t.Fatalf("the word %d of the block %d is used by %d", i, block, u[w])
		}
		u[w] = to
	}
}

// count tells how many blocks of a class have a user.
func (u *user) count(class int) int {
	n := 0
	for block := range written[class].blocks {
		if u[wordOf(at(class, block))] != 0 {
			n++
		}
	}
	return n
}

// within asks word by word.
func (u *user) within(a, words int) bool {
	if a%4 != 0 || words < 1 {
		return false
	}
	for i := range words {
		b := a + 4*i
		if b < Base || b >= Base+Size || u[wordOf(b)] == 0 || u[wordOf(b)] != u[wordOf(a)] {
			return false
		}
	}
	return true
}

// takeOne asks both for a block.
func takeOne(t *testing.T, h *Heap, u *user, words int) {
	t.Helper()
	class := fits(words)
	want := u.free(class)
	if want == 0 {
		refuse(t, h, words, api.ErrFull)
		return
	}
	take(t, h, words, want)
	u.set(t, class, want, 0, want)
}

// freeOne lets a block go, if it is one that is in use.
func freeOne(t *testing.T, h *Heap, u *user, class, a int) {
	t.Helper()
	if a%4 != 0 || u[wordOf(a)] != a {
		free(t, h, api.ErrFree, a)
		return
	}
	free(t, h, api.OK, a)
	u.set(t, class, a, a, 0)
}

func TestHeapsByChance(t *testing.T) {
	for seed := range 60 {
		r := rand.New(rand.NewSource(int64(seed)))
		h, u := New(), &user{}
		for range 2500 {
			class := r.Intn(4)
			c := written[class]
			switch n := r.Intn(12); {
			case n < 5-seed%2:
				takeOne(t, h, u, c.least+r.Intn(c.most-c.least+1))
			case n < 8:
				freeOne(t, h, u, class, at(class, r.Intn(c.blocks)))
			case n < 9:
				freeOne(t, h, u, class, at(class, r.Intn(c.blocks))+1+r.Intn(4*c.most-1))
			case n < 10:
				refuse(t, h, wrongWords[r.Intn(len(wrongWords))], api.ErrArg)
			default:
				a, words := Base-40+r.Intn(Size+80), r.Intn(c.most+4)-1
				if r.Intn(4) > 0 {
					a -= a % 4
				}
				within(t, h, a, words, u.within(a, words))
			}
			live(t, h, u.count(0), u.count(1), u.count(2), u.count(3))
		}
		if t.Failed() {
			t.Fatalf("seed %d", seed)
		}
	}
}

// Whatever was done ahead of it, a class is full behind just as many Allocs as it has blocks that are not in use.
func TestAllocRefusesJustWhereAllAreInUse(t *testing.T) {
	for seed := range 20 {
		r := rand.New(rand.NewSource(int64(1000 + seed)))
		h := full(t)
		for class, c := range written {
			gone := r.Perm(c.blocks)[:r.Intn(c.blocks+1)]
			for _, block := range gone {
				free(t, h, api.OK, at(class, block))
			}
			seen := map[int]struct{}{}
			for range gone {
				a, e := h.Alloc(c.least)
				if _, twice := seen[a]; twice || e != api.OK {
					t.Errorf("seed %d: Alloc(%d) = %d, %d", seed, c.least, a, int(e))
				}
				seen[a] = struct{}{}
			}
			refuse(t, h, c.least, api.ErrFull)
		}
		live(t, h, 64, 32, 16, 8)
	}
}
