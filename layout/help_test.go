package layout_test

import (
	"math/big"
	"slices"
	"testing"

	"ferrule/api"
	"ferrule/fold"
	"ferrule/layout"
)

// n is a number as an operand, v a scalar.
func n(number int) api.Operand { return api.Operand{Const: true, N: number} }
func v(scalar int) api.Operand { return api.Operand{N: scalar} }

func step(words int) api.Step               { return api.Step{Kind: api.StAdd, N: words} }
func times(scalar, size int) api.Step       { return api.Step{Kind: api.StIndex, N: scalar, Size: size} }
func held() api.Step                        { return api.Step{Kind: api.StHeld} }
func at(local int, s ...api.Step) api.Place { return api.Place{Local: local, Steps: s} }

func set(dst int, a api.Operand) api.Instr       { return api.Instr{Op: api.OpSet, Dst: dst, A: a} }
func load(dst int, p api.Place) api.Instr        { return api.Instr{Op: api.OpLoad, Dst: dst, P: p} }
func store(p api.Place, a api.Operand) api.Instr { return api.Instr{Op: api.OpStore, P: p, A: a} }
func addr(dst int, p api.Place) api.Instr        { return api.Instr{Op: api.OpAddr, Dst: dst, P: p} }
func drop(x api.Type, p api.Place) api.Instr     { return api.Instr{Op: api.OpDrop, Type: x, P: p} }
func show(a api.Operand) api.Instr               { return api.Instr{Op: api.OpPrint, A: a} }
func move(words int, p, q api.Place) api.Instr {
	return api.Instr{Op: api.OpCopy, N: words, P: p, Q: q}
}

func block(end api.Term, list ...api.Instr) api.Block { return api.Block{List: list, Term: end} }
func answer(args ...api.Operand) api.Term             { return api.Term{Kind: api.TeReturn, Args: args} }
func jump(to int) api.Term                            { return api.Term{Kind: api.TeGoto, To: to} }

// fn is a function with so many params and answers.
func fn(name string, locals []int, params, answers int, blocks ...api.Block) api.Mir {
	return api.Mir{Name: name, Locals: locals, Params: params, Answers: answers, Blocks: blocks}
}

// starts is a main of one block.
func starts(locals []int, list ...api.Instr) api.Mir {
	return fn("main", locals, 0, 0, block(answer(), list...))
}

// needing is a main of some locals, of which some scalars are asked where they are.
func needing(locals []int, scalars ...int) api.Mir {
	f := starts(append(slices.Clone(locals), 1))
	for _, k := range scalars {
		f.Blocks[0].List = append(f.Blocks[0].List, addr(len(locals), at(k)))
	}
	return f
}

// places are those that an instruction's operation uses.
func places(in api.Instr) []api.Place {
	switch in.Op {
	case api.OpLoad, api.OpStore, api.OpAddr, api.OpDrop:
		return []api.Place{in.P}
	case api.OpCopy:
		return []api.Place{in.P, in.Q}
	}
	return nil
}

// isPlain tells P15.1 of one local, apart from fold.
func isPlain(f api.Mir, local int) bool {
	for _, b := range f.Blocks {
		for _, in := range b.List {
			for _, p := range places(in) {
				if p.Local == local && (len(p.Steps) == 0 || p.Steps[0].Kind != api.StHeld) {
					return false
				}
			}
		}
	}
	return f.Locals[local] == 1
}

// wantLaid holds a function's layout against sums told apart from it, for which no number is too great (P16.1), and asks that no two locals share a word (P16.3).
func wantLaid(t *testing.T, what string, f api.Mir) (in, out int) {
	t.Helper()
	where, words := layout.Layout(f)
	plain := fold.Plain(f)
	if len(where) != len(f.Locals) || len(plain) != len(f.Locals) {
		t.Fatalf("%s: %d told of %d locals", what, len(where), len(f.Locals))
	}
	sum := new(big.Int)
	for k, many := range f.Locals {
		want := big.NewInt(-1)
		if isPlain(f, k) {
			out++
		} else {
			in++
			want.Set(sum)
			sum.Add(sum, big.NewInt(max(0, int64(many))))
		}
		if plain[k] != isPlain(f, k) || big.NewInt(int64(where[k])).Cmp(want) != 0 {
			t.Fatalf("%s: local %d of %v lies at %d, not at %v", what, k, f.Locals, where[k], want)
		}
	}
	if big.NewInt(int64(words)).Cmp(sum) != 0 {
		t.Fatalf("%s: %v: %d words, not %v", what, f.Locals, words, sum)
	}
	wantApart(t, what, f, where, words)
	return in, out
}

// wantApart is P16.3, by a list of whose each word of the frame is; greater frames are held by their ends.
func wantApart(t *testing.T, what string, f api.Mir, where []int, words int) {
	t.Helper()
	const great = 1 << 20
	whose, last := map[int]int{}, 0
	for k, first := range where {
		if first == -1 {
			continue
		}
		many := max(0, f.Locals[k])
		if first < 0 || first > words || many > words-first {
			t.Fatalf("%s: local %d, %d words at %d, lies not in a frame of %d", what, k, many, first, words)
		}
		if first < last {
			t.Fatalf("%s: local %d at %d lies over one that ends at %d", what, k, first, last)
		}
		last = first + many
		if words > great {
			continue
		}
		for word := first; word < last; word++ {
			if other, taken := whose[word]; taken {
				t.Fatalf("%s: locals %d and %d lie over one another at %d", what, other, k, word)
			}
			whose[word] = k
		}
	}
	if words <= great && len(whose) != words {
		t.Fatalf("%s: of %d words %d are used", what, words, len(whose))
	}
}

// wantAt asks where locals lie, and how many words the frame has.
func wantAt(t *testing.T, what string, f api.Mir, words int, where ...int) {
	t.Helper()
	if got, many := layout.Layout(f); !slices.Equal(got, where) || many != words {
		t.Errorf("%s: %v, %d words, not %v, %d words", what, got, many, where, words)
	}
}
