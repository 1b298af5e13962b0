package layout_test

import (
	"math/rand"
	"strconv"
	"testing"

	"ferrule/api"
	"ferrule/layout"
	"ferrule/mir"
)

// P16.1 and P16.3.

func TestLayout(t *testing.T) {
	const one = -1 // where the last local of each lies, which is plain
	for _, c := range []struct {
		what    string
		locals  []int
		scalars []int // those that are not plain
		words   int
		where   []int
	}{
		{"no other local", nil, nil, 0, []int{one}},
		{"a plain one", []int{1}, nil, 0, []int{-1, one}},
		{"plain ones", []int{1, 1, 1}, nil, 0, []int{-1, -1, -1, one}},
		{"one that is not", []int{1}, []int{0}, 1, []int{0, one}},
		{"a plain one ahead", []int{1, 1}, []int{1}, 1, []int{-1, 0, one}},
		{"a plain one behind", []int{1, 1}, []int{0}, 1, []int{0, -1, one}},
		{"a plain one between", []int{1, 1, 1}, []int{0, 2}, 2, []int{0, -1, 1, one}},
		{"plain ones ahead, between, behind", []int{1, 1, 3, 1, 1, 2, 1, 1}, []int{4}, 6, []int{-1, -1, 0, -1, 3, 4, -1, -1, one}},
		{"none plain", []int{1, 1, 1}, []int{2, 1, 0}, 3, []int{0, 1, 2, one}},
		{"asked twice", []int{1, 1}, []int{1, 1, 1}, 1, []int{-1, 0, one}},
		{"no word", []int{0}, nil, 0, []int{0, one}},
		{"no words", []int{0, 0, 0}, []int{1}, 0, []int{0, 0, 0, one}},
		{"no words among others", []int{0, 2, 0, 1, 0, 3, 0}, []int{3}, 6, []int{0, 0, 2, 2, 3, 3, 6, one}},
		{"several words", []int{2, 3, 4}, nil, 9, []int{0, 2, 5, one}},
		{"the most words", []int{4 * api.MaxWords, 1, 4 * api.MaxWords}, nil, 8 * api.MaxWords, []int{0, -1, 4 * api.MaxWords, one}},
	} {
		f := needing(c.locals, c.scalars...)
		if mir.Check([]api.Mir{f}) != api.OK {
			t.Errorf("%s: mir refuses it", c.what)
		}
		wantAt(t, c.what, f, c.words, c.where...)
		wantLaid(t, c.what, f)
	}
	wantAt(t, "no local", starts(nil), 0)
	wantAt(t, "no local, a list", starts([]int{}), 0)
}

// What is a place of a local, and what is none, for one between others.
func TestPlaces(t *testing.T) {
	locals := []int{2, 1, 1, 4}
	for _, c := range []struct {
		what  string
		lies  bool
		steps []api.Step
	}{
		{"no steps", true, nil},
		{"StAdd", true, []api.Step{step(0)}},
		{"StAdd first", true, []api.Step{step(0), held()}},
		{"StIndex", true, []api.Step{times(2, 1)}},
		{"StIndex first", true, []api.Step{times(2, 0), held()}},
		{"StHeld", false, []api.Step{held()}},
		{"StHeld first", false, []api.Step{held(), step(1), held(), times(2, 3)}},
	} {
		p := at(1, c.steps...)
		for what, in := range map[string]api.Instr{
			"load": load(2, p), "store": store(p, n(1)), "addr": addr(2, p), "drop": drop(api.Type{Kind: api.TyU8}, p), "to": move(1, p, at(3)), "from": move(1, at(3), p),
		} {
			// It is all the same in which block, and where nothing comes to.
			for _, f := range []api.Mir{starts(locals, in), starts(locals, set(1, n(1)), in, show(v(1))), fn("main", locals, 0, 0, block(answer()), block(jump(1), load(2, at(1, held())), in))} {
				if c.lies {
					wantAt(t, what+" "+c.what, f, 7, 0, 2, -1, 3)
				} else {
					wantAt(t, what+" "+c.what, f, 6, 0, -1, -1, 2)
				}
				wantLaid(t, what+" "+c.what, f)
			}
		}
	}
	index := starts(locals, addr(2, at(3, times(1, 1))), api.Instr{Op: api.OpGive, Dst: 1}, api.Instr{Op: api.OpTake, Dst: 1}, api.Instr{Op: api.OpClear, Dst: 1})
	wantAt(t, "an index, and what is held, are no places", index, 6, 0, -1, -1, 2)
}

// Params lie as others do.
func TestParams(t *testing.T) {
	f := fn("f", []int{1, 2, 1, 3, 1}, 4, 1, block(answer(v(4)), load(4, at(2)), load(4, at(0, held())), store(at(1, step(1)), v(0))))
	wantAt(t, "params", f, 6, -1, 0, 2, 3, -1)
	f.Params, f.Answers, f.Quiet, f.Name = 0, 0, true, ""
	wantAt(t, "no params", f, 6, -1, 0, 2, 3, -1)
}

// byChance is a function of some locals and instructions that mir takes.
func byChance(chance *rand.Rand, locals int) api.Mir {
	f := fn("main", []int{1}, 0, 0)
	scalars := []int{0}
	for k := 1; k < locals; k++ {
		words := []int{1, 1, 1, 1, 0, 2, 3, 1 + chance.Intn(40), 4 * api.MaxWords}[chance.Intn(9)]
		f.Locals = append(f.Locals, words)
		if words == 1 {
			scalars = append(scalars, k)
		}
	}
	scalar := func() int { return scalars[chance.Intn(len(scalars))] }
	place := func() api.Place {
		p := at(chance.Intn(locals))
		for range chance.Intn(4) {
			p.Steps = append(p.Steps, []api.Step{held(), held(), held(), step(chance.Intn(9)), times(scalar(), chance.Intn(9))}[chance.Intn(5)])
		}
		return p
	}
	blocks := 1 + chance.Intn(3)
	for range blocks {
		b := block(jump(chance.Intn(blocks)))
		for range chance.Intn(2 + locals/3) {
			b.List = append(b.List, []api.Instr{
				load(scalar(), place()), store(place(), v(scalar())), addr(scalar(), place()), move(chance.Intn(3), place(), place()), drop(api.Type{Kind: api.TyU8}, place()),
				set(scalar(), v(scalar())), show(v(scalar())), {Op: api.OpGive, Dst: chance.Intn(locals)}, {Op: api.OpAlloc, Dst: scalar(), N: 3},
			}[chance.Intn(9)])
		}
		f.Blocks = append(f.Blocks, b)
	}
	return f
}

func TestByChance(t *testing.T) {
	in, out := 0, 0
	for seed := range int64(4000) {
		f := byChance(rand.New(rand.NewSource(seed)), 1+int(seed)%20)
		if mir.Check([]api.Mir{f}) != api.OK {
			t.Fatalf("seed %d: mir refuses it", seed)
		}
		lie, stay := wantLaid(t, "seed "+strconv.FormatInt(seed, 10), f)
		in, out = in+lie, out+stay
	}
	if in < 5000 || out < 5000 {
		t.Errorf("%d in frames, %d plain ones", in, out)
	}
}

// All functions of few locals: each of them of no word, of one (plain or not), of two or below 0.
func TestEveryFew(t *testing.T) {
	kinds := []int{0, 1, 1, 2, -1}
	for many := range 6 {
		all := 1
		for range many {
			all *= len(kinds)
		}
		for code := range all {
			var locals, scalars []int
			for k, rest := 0, code; k < many; k, rest = k+1, rest/len(kinds) {
				locals = append(locals, kinds[rest%len(kinds)])
				if rest%len(kinds) == 2 {
					scalars = append(scalars, k)
				}
			}
			wantLaid(t, "few", needing(locals, scalars...))
		}
	}
}

// A function of very many locals and instructions.
func TestGreat(t *testing.T) {
	const many = 300_000
	f := starts(make([]int, many))
	want := 0
	for k := range many {
		f.Locals[k] = []int{1, 1, 0, 2}[k%4]
		if k%4 == 1 {
			f.Blocks[0].List = append(f.Blocks[0].List, load(0, at(k, step(0))), store(at(k-1, held()), n(1)))
		}
	}
	where, words := layout.Layout(f)
	for k, got := range where {
		switch {
		case k%4 == 0 && got != -1, k%4 != 0 && got != want:
			t.Fatalf("local %d lies at %d, not at %d", k, got, want)
		case k%4 != 0:
			want += f.Locals[k]
		}
	}
	if len(where) != many || words != want {
		t.Errorf("%d words, not %d", words, want)
	}
}
