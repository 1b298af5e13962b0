package model

import (
	"math/rand"
	"testing"

	"ferrule/api"
	"ferrule/borrow"
)

// TestByChance holds runs of programs that nothing is against, made by chance, against runs by words, with much fuel and with less. None of them is stuck.
func TestByChance(t *testing.T) {
	seen, refused := map[[2]int]int{}, 0
	for seed := range 3000 {
		text := program(int64(seed), 10+seed%50)
		l := typed(t, text)
		if _, e := borrow.Check(l); e != api.OK {
			refused++
			continue
		}
		chance := rand.New(rand.NewSource(int64(seed)))
		input := []int{chance.Intn(5), chance.Intn(300) - 100, chance.Int()}[:chance.Intn(4)]
		whole := outcome(t, l, input, 20000)
		if want := byWords(l, input, 20000); !whole.same(want) || whole.kind == api.OutStuck {
			t.Fatalf("seed %d: %v, not %v\n%s", seed, whole, want, text)
		}
		seen[[2]int{whole.kind, whole.code}]++
		for range 5 {
			fuel := chance.Intn(whole.steps + 2)
			got := outcome(t, l, input, fuel)
			if want := byWords(l, input, fuel); !got.same(want) {
				t.Fatalf("seed %d with the fuel %d: %v, not %v\n%s", seed, fuel, got, want, text)
			}
			wantFuel(t, l, input, whole, fuel)
		}
	}
	for _, how := range [][2]int{{api.OutFuel, 0}, {api.OutExit, 0}, {api.OutExit, 101}, {api.OutDepth, 0}, {api.OutMemory, 0}} {
		if seen[how] < 20 || refused > 300 {
			t.Errorf("%v only %d times: %v, and %d refused", how, seen[how], seen, refused)
		}
	}
}
