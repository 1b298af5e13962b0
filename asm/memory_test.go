package asm_test

import (
	"math/rand"
	"slices"
	"sync"
	"testing"

	"ferrule/api"
	"ferrule/asm"
)

// What is handed in stays as it was, its spare room too; what lies behind its length is not read; no memory is shared.
func TestMemory(t *testing.T) {
	r := rand.New(rand.NewSource(234))
	for n := range 1500 {
		lines := linesByChance(r, 1+r.Intn(30), 1+r.Intn(4), 700)
		if n%3 == 0 {
			lines = spoilt(r, lines)
		}
		// Behind the lines stand such as would change each answer.
		whole := slices.Concat(lines, []api.Asm{{}, label("0"), beq("none"), jump(32, "0"), pad(20000)})
		before := slices.Clone(whole)
		l := whole[:len(lines)]
		at, size, words, e := answers(t, l)
		aloneAt, aloneSize, aloneWords, aloneE := answers(t, slices.Clip(slices.Clone(lines)))
		if !slices.Equal(whole, before) {
			t.Fatalf("%s was changed", short(before))
		}
		if !slices.Equal(at, aloneAt) || size != aloneSize || !slices.Equal(words, aloneWords) || e != aloneE {
			t.Fatalf("%s: spare room tells", short(l))
		}
		spoil(at, -1)
		spoil(words, 1)
		if !slices.Equal(whole, before) {
			t.Fatalf("%s is shared with an answer", short(before))
		}
		at, size, words, e = answers(t, l)
		if !slices.Equal(at, aloneAt) || size != aloneSize || !slices.Equal(words, aloneWords) || e != aloneE {
			t.Fatalf("%s: an answer is kept", short(l))
		}
	}
}

// spoil writes over a list and its spare room.
func spoil[T any](l []T, with T) {
	l = l[:cap(l)]
	for k := range l {
		l[k] = with
	}
}

// The same is answered whenever it is asked, whatever else was asked ahead of it, or is asked meanwhile.
func TestAgain(t *testing.T) {
	r := rand.New(rand.NewSource(235))
	lists := [][]api.Asm{nil, good(), dominoes(300, 1, false, true), dominoes(300, 1, true, false), {beq("x")}, {{}}, {pad(16385)}}
	for range 20 {
		lists = append(lists, linesByChance(r, 60, 8, 300), spoilt(r, linesByChance(r, 20, 3, 700)))
	}
	type told struct {
		at    []int
		size  int
		words []uint32
		e     api.Errno
	}
	var first []told
	for _, l := range lists {
		at, size, words, e := answers(t, l)
		first = append(first, told{at, size, words, e})
	}
	var all sync.WaitGroup
	for n := range 4 {
		order := r.Perm(len(lists))
		all.Go(func() {
			for _, k := range order {
				at, size, e := asm.Place(lists[k])
				words, other := asm.Assemble(lists[k])
				if w := first[k]; !slices.Equal(at, w.at) || size != w.size || e != w.e || other != w.e || !slices.Equal(words, w.words) {
					t.Errorf("%d: %s: another answer", n, short(lists[k]))
				}
			}
		})
	}
	all.Wait()
}
