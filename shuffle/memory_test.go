package shuffle

import (
	"math/rand"
	"slices"
	"testing"

	"ferrule/api"
)

// What is handed in stays as it was, its spare room too; what lies behind its length is not read; no memory is shared.
func TestMemory(t *testing.T) {
	r := rand.New(rand.NewSource(4))
	for range 3000 {
		plain := byChance(r, 0, 14, 14)
		if r.Intn(4) == 0 && len(plain) > 0 {
			plain[r.Intn(len(plain))] = Move{r.Intn(14), 77}
		}
		whole := slices.Concat(plain, moves(77, 1, 3, 77), plain)
		before := slices.Clone(whole)
		l := whole[:len(plain)]
		told, e := Line(l, 77)
		alone, other := Line(slices.Clip(slices.Clone(plain)), 77)
		if !slices.Equal(whole, before) {
			t.Fatalf("%v was changed to %v", before, whole)
		}
		if e != other || !slices.Equal(told, alone) {
			t.Fatalf("%v: spare room tells: %v, %v", plain, told, alone)
		}
		spoil(told)
		if !slices.Equal(whole, before) {
			t.Fatalf("%v is shared with an answer", plain)
		}
		if again, e := Line(l, 77); e != other || !slices.Equal(again, alone) {
			t.Fatalf("%v: an answer is kept: %v, then %v", plain, alone, again)
		}
		if e == api.OK {
			byWords(t, l, 77)
		}
	}
}

// spoil writes over a list and its spare room.
func spoil(l []Move) {
	l = l[:cap(l)]
	for i := range l {
		l[i] = Move{-77, -78}
	}
}
