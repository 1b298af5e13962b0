package asm_test

import (
	"slices"
	"strconv"
	"testing"

	"ferrule/api"
)

// P23.1, P23.3: thousands of branches that grow one after the other, among very many lines without a word.
func TestGreatDominoes(t *testing.T) {
	for _, back := range []bool{false, true} {
		l := dominoes(4800, 1, back, true)
		p := taken(t, l)
		if long := len(longIn(l)); long != 4800 || p.rounds < 1000 {
			t.Fatalf("back %v: %d by %d rounds", back, long, p.rounds)
		}
		want := p.size
		for k := range 300000 {
			l = append(l, label("more"+strconv.Itoa(k)))
		}
		l = append(l, slices.Repeat([]api.Asm{pad(0)}, 300000)...)
		at, size, words, e := answers(t, l)
		if e != api.OK || size != want || 4*len(words) != want || len(at) != len(l) || !slices.Equal(at[:len(p.at)], p.at) || at[len(at)-1] != size {
			t.Fatalf("back %v: %d, %d bytes", back, int(e), size)
		}
	}
}

// P23.1, P23.3: branches that grow one after the other until the image is just as big as it may be, and a word more.
func TestDominoesUpToTheEnd(t *testing.T) {
	for _, back := range []bool{false, true} {
		l := dominoes(5000, 2, back, true)
		if p := taken(t, l); p.rounds < 1000 || p.size > api.MaxCode {
			t.Fatalf("%d rounds, %d bytes", p.rounds, p.size)
		} else {
			l = append(l, pad((api.MaxCode-p.size)/4))
		}
		if p := taken(t, l); p.size != api.MaxCode {
			t.Fatal(p.size)
		}
		refused(t, append(l, pad(1)), api.ErrImage)
		// As long as none of them grows there is room.
		l = dominoes(5000, 2, back, false)
		p := taken(t, append(l, pad(1000)))
		if len(longIn(l)) != 0 || p.rounds != 0 {
			t.Fatal(p.rounds)
		}
	}
}

// P23.1: very many lines, most of them without a word, or with so many that the image is too big.
func TestManyLines(t *testing.T) {
	const many = 300000
	var labels []api.Asm
	for k := range many {
		labels = append(labels, label(strconv.Itoa(k)))
	}
	taken(t, labels)
	taken(t, slices.Concat(labels, slices.Repeat([]api.Asm{jump(1, "0"), beq(strconv.Itoa(many - 1))}, 1000)))
	refused(t, append(slices.Clone(labels), label(strconv.Itoa(many/2))), api.ErrLabel)
	refused(t, append(slices.Clone(labels), beq(strconv.Itoa(many))), api.ErrLabel)
	refused(t, append(slices.Repeat([]api.Asm{beq("x")}, many), label("x")), api.ErrImage)
	refused(t, append([]api.Asm{label("x"), jump(32, "x")}, slices.Repeat([]api.Asm{beq("x")}, many)...), api.ErrIllegal)
	refused(t, append(slices.Repeat([]api.Asm{pad(3)}, many), pad(1<<20-3*many)), api.ErrImage)
	refused(t, append(slices.Repeat([]api.Asm{pad(3)}, many), pad(1<<20-3*many+1)), api.ErrForm)
	refused(t, append(slices.Repeat([]api.Asm{pad(0)}, many), api.Asm{}), api.ErrForm)
	taken(t, append(slices.Repeat([]api.Asm{pad(0), pad(-1)}, many), pad(16384)))
}
