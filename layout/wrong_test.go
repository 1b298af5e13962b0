package layout_test

import (
	"math"
	"math/rand"
	"reflect"
	"slices"
	"strconv"
	"testing"

	"ferrule/api"
	"ferrule/layout"
	"ferrule/mir"
)

// Wrong inputs, odd ones, and memory.

// Of functions that mir refuses it is told all the same.
func TestRefused(t *testing.T) {
	locals := []int{1, 2, 1}
	bad := func(change func(f *api.Mir)) api.Mir {
		f := starts(slices.Clone(locals), addr(0, at(2)), show(v(0)))
		change(&f)
		return f
	}
	with := func(in api.Instr) api.Mir {
		return bad(func(f *api.Mir) { f.Blocks[0].List = append(f.Blocks[0].List, in) })
	}
	ends := func(end api.Term) api.Mir { return bad(func(f *api.Mir) { f.Blocks[0].Term = end }) }
	for what, f := range map[string]api.Mir{
		"params below 0":        bad(func(f *api.Mir) { f.Params = -1 }),
		"too many params":       bad(func(f *api.Mir) { f.Params = math.MaxInt }),
		"answers below 0":       bad(func(f *api.Mir) { f.Answers = math.MinInt }),
		"another operation":     with(api.Instr{Op: 16, P: at(0), Q: at(0)}),
		"no operation":          with(api.Instr{P: at(0), Q: at(0)}),
		"one below 0":           with(api.Instr{Op: -3, P: at(0), Q: at(0)}),
		"the greatest":          with(api.Instr{Op: math.MaxInt, P: at(0)}),
		"the least":             with(api.Instr{Op: math.MinInt, P: at(0)}),
		"a place of no local":   with(load(0, at(3))),
		"a place below 0":       with(load(0, at(-1))),
		"places far away":       with(move(1, at(math.MaxInt), at(math.MinInt))),
		"no scalar":             with(set(1, v(7))),
		"a call of nobody":      with(api.Instr{Op: api.OpCall, Text: "f", Dsts: []int{-1}, Args: []api.Operand{v(9)}}),
		"StHeld, then others":   with(addr(9, at(0, held(), api.Step{Kind: 9, N: -1}, times(-1, -1)))),
		"an end that goes away": ends(jump(7)),
		"an end that answers":   ends(answer(v(1), v(-1))),
		"another end":           ends(api.Term{Kind: 9, To: -1, Else: math.MaxInt, A: v(-1)}),
	} {
		if mir.Check([]api.Mir{f}) == api.OK {
			t.Errorf("%s: mir takes it", what)
		}
		wantAt(t, what, f, 3, -1, 0, 2)
		wantLaid(t, what, f)
	}
	wantAt(t, "another first step", with(load(0, at(0, api.Step{Kind: 4}))), 4, 0, 1, 3)
	wantAt(t, "no block", api.Mir{Locals: []int{1, 2, 1, 0, 3}}, 5, -1, 0, -1, 2, 2)
	wantAt(t, "no block, a list", api.Mir{Locals: []int{3, 1}, Blocks: []api.Block{}}, 3, 0, -1)
	wantAt(t, "nothing in it", api.Mir{}, 0)
	wantAt(t, "no local, but places", starts(nil, load(0, at(0)), move(3, at(-1), at(1))), 0)
}

// Locals with words below 0 have none, but lie in the frame; one word is what a plain local has, no other number.
func TestOddWords(t *testing.T) {
	for _, c := range []struct {
		what   string
		locals []int
		words  int
		where  []int
	}{
		{"below 0", []int{-1}, 0, []int{0}},
		{"far below 0", []int{math.MinInt, 3, math.MinInt}, 3, []int{0, 0, 3}},
		{"below 0 among others", []int{2, -5, 1, -1, 3, math.MinInt, 1, 4, -2}, 9, []int{0, 2, -1, 2, 2, 5, -1, 5, 9}},
		{"too many", []int{4*api.MaxWords + 1, 2, 1 << 40, 1}, 1<<40 + 515, []int{0, 513, 515, -1}},
		{"one modulo 2^32", []int{1<<32 + 1, 1, -1<<32 + 1, 1 << 32}, 1<<33 + 1, []int{0, -1, 1<<32 + 1, 1<<32 + 1}},
		{"the most", []int{math.MaxInt, 1, 0, -1}, math.MaxInt, []int{0, -1, math.MaxInt, math.MaxInt}},
		{"the most together", []int{3, math.MaxInt - 5, 2}, math.MaxInt, []int{0, 3, math.MaxInt - 2}},
	} {
		f := api.Mir{Locals: c.locals, Blocks: []api.Block{block(answer())}}
		wantAt(t, c.what, f, c.words, c.where...)
		wantLaid(t, c.what, f)
	}
}

// More words than an int can tell: sums do not wrap round, so that none is taken for a register or for a small frame.
func TestTooManyWords(t *testing.T) {
	const most = math.MaxInt
	wantAt(t, "one beyond", api.Mir{Locals: []int{most, 2, 1, 3}}, most, 0, most, -1, most)
	wantAt(t, "far beyond", api.Mir{Locals: []int{most, most, most, -1, most}}, most, 0, most, most, most, most)
	wantAt(t, "the last one", api.Mir{Locals: []int{2, most - 1}}, most, 0, 2)
	wantAt(t, "by a scalar", starts([]int{most - 1, 1, 1, 1}, load(0, at(1)), load(0, at(2))), most, 0, most-1, most, -1)
	for bit := 56; bit < 63; bit++ {
		f := api.Mir{Locals: slices.Repeat([]int{1 << bit}, 600)}
		last := 0
		where, words := layout.Layout(f)
		for k, first := range where {
			if first < last || k > 0 && first == 0 || first > words {
				t.Fatalf("2^%d words: local %d lies at %d, behind one at %d", bit, k, first, last)
			}
			last = first
		}
		if words != most {
			t.Errorf("2^%d words: %d", bit, words)
		}
	}
}

// odd is a function made of anything.
func odd(chance *rand.Rand) api.Mir {
	some := func() int {
		return []int{0, 1, 1, 2, 3, -1, 4, 5, 1 << 40, -1 << 63, chance.Intn(20)}[chance.Intn(11)]
	}
	place := func() api.Place {
		p := api.Place{Local: some()}
		for range chance.Intn(4) {
			p.Steps = append(p.Steps, api.Step{Kind: []int{api.StHeld, api.StHeld, some()}[chance.Intn(3)], N: some(), Size: some()})
		}
		return p
	}
	f := api.Mir{Params: some(), Answers: some()}
	for range chance.Intn(9) {
		f.Locals = append(f.Locals, []int{1, 1, 1, some()}[chance.Intn(4)])
	}
	for range chance.Intn(4) {
		b := api.Block{Term: api.Term{Kind: some(), To: some(), Else: some(), A: v(some())}}
		for range chance.Intn(4) {
			b.List = append(b.List, api.Instr{Op: []int{some(), api.OpLoad + chance.Intn(4)}[chance.Intn(2)], Dst: some(), A: v(some()), N: some(), P: place(), Q: place()})
		}
		f.Blocks = append(f.Blocks, b)
	}
	return f
}

func TestOddByChance(t *testing.T) {
	in, out, refused := 0, 0, 0
	for seed := range int64(8000) {
		f := odd(rand.New(rand.NewSource(seed)))
		lie, stay := wantLaid(t, "seed "+strconv.FormatInt(seed, 10), f)
		in, out = in+lie, out+stay
		if mir.Check([]api.Mir{f}) != api.OK {
			refused++
		}
	}
	if in < 3000 || out < 3000 || refused < 3000 {
		t.Errorf("%d in frames, %d plain ones, %d refused", in, out, refused)
	}
}

// spoilt is a function whose fields that no operation uses are set to anything.
func spoilt(f api.Mir) api.Mir {
	f.Blocks = slices.Clone(f.Blocks)
	for k := range f.Blocks {
		b := &f.Blocks[k]
		b.List = slices.Clone(b.List)
		for at := range b.List {
			b.List[at] = spoiltInstr(b.List[at], len(f.Locals))
		}
		b.Term.A, b.Term.Else = v(-9), 1<<40
	}
	return f
}

// spoiltInstr sets the places that an operation does not use to ones that would let a local lie in the frame.
func spoiltInstr(in api.Instr, locals int) api.Instr {
	for _, p := range []*api.Place{&in.P, &in.Q} {
		p.Steps = slices.Clone(p.Steps)
		for k := range p.Steps {
			switch s := &p.Steps[k]; s.Kind {
			case api.StHeld:
				s.N, s.Size = -5, 1<<40
			case api.StAdd:
				s.Size = -5
			}
		}
	}
	other := at((in.Dst+1)%locals, step(1))
	switch len(places(in)) {
	case 0:
		in.P, in.Q = at(in.Dst%locals), other
	case 1:
		in.Q = other
	}
	in.B, in.Type = v(-1), api.Type{Kind: api.TyBox}
	in.Args, in.Dsts = []api.Operand{v(0), v(77)}, []int{0, -1}
	return in
}

func TestSpoilt(t *testing.T) {
	for seed := range int64(1000) {
		f := byChance(rand.New(rand.NewSource(seed)), 1+int(seed)%20)
		where, words := layout.Layout(f)
		wantAt(t, "spoilt", spoilt(f), words, where...)
	}
	// Each operation alone, with both places set: which of them it uses.
	for op := -1; op < 20; op++ {
		f := starts([]int{1, 2, 1, 1}, api.Instr{Op: op, Dst: 3, A: v(3), B: v(3), P: at(0), Q: at(2, step(0)), N: 1, Text: "main", Args: []api.Operand{v(3)}, Dsts: []int{3}})
		switch len(places(f.Blocks[0].List[0])) {
		case 0:
			wantAt(t, "no place", f, 2, -1, 0, -1, -1)
		case 1:
			wantAt(t, "P alone", f, 3, 0, 1, -1, -1)
		case 2:
			wantAt(t, "P and Q", f, 4, 0, 1, 3, -1)
		}
	}
}

// roomy is a list in new memory with spare room that holds something.
func roomy[T any](list []T, spare T) []T {
	return append(slices.Clone(list), spare, spare)[:len(list)]
}

// whole is a list with what lies in its spare room.
func whole[T any](list []T) []T { return slices.Clone(list[:cap(list)]) }

// What is handed in stays as it was, and its spare room neither counts nor changes; what is handed out is new.
func TestMemory(t *testing.T) {
	for seed := range int64(300) {
		f := byChance(rand.New(rand.NewSource(seed)), 1+int(seed)%9)
		where, words := layout.Layout(f)
		given := f
		given.Locals = roomy(f.Locals, 1000)
		spare := load(0, at(0))
		given.Blocks = roomy(f.Blocks, block(answer(), spare, addr(0, at(1))))
		for k := range given.Blocks {
			given.Blocks[k].List = roomy(given.Blocks[k].List, spare)
		}
		before := snapshot(given)
		first, many := layout.Layout(given)
		if !reflect.DeepEqual(before, snapshot(given)) {
			t.Fatalf("seed %d: what was handed in was changed", seed)
		}
		if !slices.Equal(first, where) || many != words {
			t.Fatalf("seed %d: %v, not %v", seed, first, where)
		}
		for k := range first[:cap(first)] {
			first[:cap(first)][k] = 99
		}
		if !reflect.DeepEqual(before, snapshot(given)) {
			t.Fatalf("seed %d: something of what was handed in is handed out", seed)
		}
		wantAt(t, "again", given, words, where...)
	}
}

// snapshot is a function's lists with their spare room, in new memory.
func snapshot(f api.Mir) api.Mir {
	f.Locals, f.Blocks = whole(f.Locals), whole(f.Blocks)
	for k := range f.Blocks {
		b := &f.Blocks[k]
		b.List = whole(b.List)
		for at := range b.List {
			b.List[at].P.Steps, b.List[at].Q.Steps = whole(b.List[at].P.Steps), whole(b.List[at].Q.Steps)
		}
	}
	return f
}
