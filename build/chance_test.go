package build_test

import (
	"math/rand"
	"testing"

	"ferrule/api"
	"ferrule/borrow"
	"ferrule/mir"
	"ferrule/model"
)

// TestByChance holds the middle form of programs made by chance out of the whole language against the model, with fuel that is enough, and that is not, for either.
func TestByChance(t *testing.T) {
	seen, refused := map[[2]int]int{}, 0
	for seed := range 3000 {
		text := program(int64(seed), 10+seed%50)
		l := typed(t, text)
		list := built(t, l) // also of a program that borrow refuses
		if _, e := borrow.Check(l); e != api.OK {
			refused++
			continue
		}
		chance := rand.New(rand.NewSource(int64(seed)))
		input := []int{chance.Intn(5), chance.Intn(300) - 100, chance.Int()}[:chance.Intn(4)]
		want, steps := model.Run(l, input, 20000)
		got, many := mir.Run(l, list, input, 20000*50)
		seen[[2]int{want.Kind, want.Code}]++
		switch {
		case want.Kind == api.OutFuel:
			if got.Kind != api.OutFuel && !begins(want.Print, got.Print) || !begins(want.Print, got.Print) && !begins(got.Print, want.Print) {
				t.Fatalf("seed %d: %v, but %v\n%s", seed, got, want, text)
			}
		case !alike(got, want) || many > perStep*steps:
			t.Fatalf("seed %d: %v by %d steps, not %v by %d\n%s", seed, got, many, want, steps, text)
		}
		for range 3 {
			less, _ := mir.Run(l, list, input, chance.Intn(many+1))
			fewer, _ := model.Run(l, input, chance.Intn(steps+1))
			if !begins(less.Print, got.Print) || want.Kind != api.OutFuel && !begins(fewer.Print, got.Print) {
				t.Fatalf("seed %d with less fuel: %v, %v, but then %v\n%s", seed, less, fewer, got, text)
			}
		}
	}
	for _, how := range [][2]int{{api.OutFuel, 0}, {api.OutExit, 0}, {api.OutExit, 101}, {api.OutDepth, 0}, {api.OutMemory, 0}} {
		if seen[how] < 10 || refused > 100 {
			t.Errorf("%v only %d times: %v, and %d refused", how, seen[how], seen, refused)
		}
	}
}
