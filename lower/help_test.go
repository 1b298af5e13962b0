package lower_test

import (
	"fmt"
	"slices"
	"testing"

	"ferrule/api"
	"ferrule/layout"
	"ferrule/low"
	"ferrule/lower"
	"ferrule/mir"
)

// plenty is fuel enough for every run of these tests that comes to an end.
const plenty = 4_000_000

const (
	zero  = api.RegZero
	frame = api.RegFrame
)

// n is a number as an operand, v a scalar.
func n(number int) api.Operand { return api.Operand{Const: true, N: number} }
func v(scalar int) api.Operand { return api.Operand{N: scalar} }

func step(words int) api.Step               { return api.Step{Kind: api.StAdd, N: words} }
func times(scalar, size int) api.Step       { return api.Step{Kind: api.StIndex, N: scalar, Size: size} }
func held() api.Step                        { return api.Step{Kind: api.StHeld} }
func at(local int, s ...api.Step) api.Place { return api.Place{Local: local, Steps: s} }

func set(dst int, a api.Operand) api.Instr { return api.Instr{Op: api.OpSet, Dst: dst, A: a} }
func bin(dst int, a api.Operand, op string, b api.Operand) api.Instr {
	return api.Instr{Op: api.OpBin, Dst: dst, A: a, Text: op, B: b}
}
func load(dst int, p api.Place) api.Instr        { return api.Instr{Op: api.OpLoad, Dst: dst, P: p} }
func store(p api.Place, a api.Operand) api.Instr { return api.Instr{Op: api.OpStore, P: p, A: a} }
func move(words int, p, q api.Place) api.Instr {
	return api.Instr{Op: api.OpCopy, N: words, P: p, Q: q}
}
func addr(dst int, p api.Place) api.Instr { return api.Instr{Op: api.OpAddr, Dst: dst, P: p} }
func alloc(dst, words int) api.Instr      { return api.Instr{Op: api.OpAlloc, Dst: dst, N: words} }
func free(a api.Operand) api.Instr        { return api.Instr{Op: api.OpFree, A: a} }
func show(a api.Operand) api.Instr        { return api.Instr{Op: api.OpPrint, A: a} }
func showFrom0(a api.Operand) api.Instr   { return api.Instr{Op: api.OpPrint, A: a, N: 1} }
func read(dst int) api.Instr              { return api.Instr{Op: api.OpRead, Dst: dst} }
func calls(dsts []int, name string, args ...api.Operand) api.Instr {
	return api.Instr{Op: api.OpCall, Text: name, Dsts: dsts, Args: args}
}

func jump(to int) api.Term { return api.Term{Kind: api.TeGoto, To: to} }
func branch(a api.Operand, to, otherwise int) api.Term {
	return api.Term{Kind: api.TeIf, A: a, To: to, Else: otherwise}
}
func answer(args ...api.Operand) api.Term { return api.Term{Kind: api.TeReturn, Args: args} }
func fail() api.Term                      { return api.Term{Kind: api.TePanic} }

func block(end api.Term, list ...api.Instr) api.Block { return api.Block{List: list, Term: end} }

// fn is a function with so many params and answers.
func fn(name string, locals []int, params, answers int, blocks ...api.Block) api.Mir {
	return api.Mir{Name: name, Locals: locals, Params: params, Answers: answers, Blocks: blocks}
}

func quiet(f api.Mir) api.Mir {
	f.Quiet = true
	return f
}

// starts is a main of one block.
func starts(locals []int, list ...api.Instr) api.Mir {
	return fn("main", locals, 0, 0, block(answer(), list...))
}

// scalars are so many locals of one word.
func scalars(count int) []int { return slices.Repeat([]int{1}, count) }

// lowered is what is told of functions that nothing is against: P18.1 holds of it.
func lowered(t *testing.T, l ...api.Mir) []api.LowFunc {
	t.Helper()
	out, e := lower.Lower(l)
	if e != api.OK {
		t.Fatalf("not lowered: %d: %.2000s", int(e), fmt.Sprint(l))
	}
	if fault := fault(l, out); fault != "" {
		t.Fatalf("%s: %.2000s is told as %.2000s", fault, fmt.Sprint(l), fmt.Sprint(out))
	}
	return out
}

// fault tells what P18.1 has against what is told of functions, and rule 2 against fields that mean nothing.
func fault(l []api.Mir, out []api.LowFunc) string {
	if e := low.Check(out); e != api.OK || len(out) != len(l) {
		return fmt.Sprintf("low.Check tells %d of %d functions, not %d", int(e), len(out), len(l))
	}
	for k, f := range out {
		_, words := layout.Layout(l[k])
		passed := 0
		for _, words := range l[k].Locals[:l[k].Params] {
			passed += words
		}
		switch {
		case f.Name != l[k].Name || f.Quiet != l[k].Quiet || f.Answers != l[k].Answers:
			return "another function"
		case len(f.Params) != passed:
			return fmt.Sprintf("%d params, not %d", len(f.Params), passed)
		case f.Frame != words:
			return fmt.Sprintf("a frame of %d words, not %d", f.Frame, words)
		}
		for _, b := range f.Blocks {
			for _, in := range b.List {
				if !isBare(in) || in.Op == api.LoLi && in.N != int(int32(in.N)) {
					return fmt.Sprintf("%+v has more than it uses", in)
				}
			}
			if !isBareEnd(b.Term) {
				return fmt.Sprintf("%+v has more than it uses", b.Term)
			}
		}
	}
	return ""
}

// isBare tells whether all fields that an operation does not use are zero.
func isBare(in api.Low) bool {
	switch in.Op {
	case api.LoLi, api.LoAlloc:
		in.D, in.N = 0, 0
	case api.LoMv:
		in.D, in.A = 0, 0
	case api.LoBin:
		in.D, in.A, in.B, in.Text = 0, 0, 0, ""
	case api.LoImm:
		in.D, in.A, in.N, in.Text = 0, 0, 0, ""
	case api.LoLw:
		in.D, in.A, in.N = 0, 0, 0
	case api.LoSw:
		in.A, in.B, in.N = 0, 0, 0
	case api.LoCall:
		in.Args, in.Dsts, in.Text = nil, nil, ""
	case api.LoPrint:
		in.A, in.N = 0, 0
	case api.LoRead:
		in.D = 0
	case api.LoFree:
		in.A = 0
	}
	return in.D == 0 && in.A == 0 && in.B == 0 && in.N == 0 && in.Text == "" && len(in.Args) == 0 && len(in.Dsts) == 0
}

func isBareEnd(t api.LowTerm) bool {
	switch t.Kind {
	case api.TeGoto:
		t.To = 0
	case api.TeIf:
		t.A, t.B, t.To, t.Else, t.Text = 0, 0, 0, 0, ""
	case api.TeReturn:
		t.Args = nil
	}
	return t.A == 0 && t.B == 0 && t.To == 0 && t.Else == 0 && t.Text == "" && len(t.Args) == 0
}

// alike tells whether two outcomes are.
func alike(a, b api.Outcome) bool {
	return a.Kind == b.Kind && a.Code == b.Code && slices.Equal(a.Print, b.Print)
}

// begins tells whether one list is the beginning of another one.
func begins(a, b []int) bool { return len(a) <= len(b) && slices.Equal(a, b[:len(a)]) }

// agree tells whether two runs may be of the same functions: if one of them had no fuel left, as far as both go.
func agree(a, b api.Outcome) bool {
	switch {
	case a.Kind == api.OutFuel && b.Kind == api.OutFuel:
		return begins(a.Print, b.Print) || begins(b.Print, a.Print)
	case a.Kind == api.OutFuel:
		return begins(a.Print, b.Print)
	case b.Kind == api.OutFuel:
		return begins(b.Print, a.Print)
	}
	return alike(a, b)
}

// runs lowers functions, and holds their runs against those in the middle form (P18.2): with fuel enough, if that is so, and with less.
func runs(t *testing.T, what string, items []api.Item, l []api.Mir, input []int, fuel int) api.Outcome {
	t.Helper()
	out := lowered(t, l...)
	want, _ := mir.Run(items, l, input, fuel)
	got, steps := low.Run(out, input, 40*fuel)
	if want.Kind != api.OutFuel && !alike(got, want) || !agree(got, want) {
		t.Fatalf("%.3000s: %.500s, not %.500s\n%.3000s\n%.3000s", what, fmt.Sprint(got), fmt.Sprint(want), fmt.Sprint(l), fmt.Sprint(out))
	}
	for _, less := range some(steps) {
		part, many := low.Run(out, input, less)
		if !agree(part, want) || many > max(0, less) {
			t.Fatalf("%.3000s: %.500s with fuel %d, not %.500s", what, fmt.Sprint(part), less, fmt.Sprint(want))
		}
	}
	return want
}

// some are fuels from none to enough: all of them if they are few.
func some(steps int) []int {
	all := []int{-1}
	if steps < 40 {
		for fuel := range steps + 1 {
			all = append(all, fuel)
		}
		return all
	}
	for part := range 5 {
		all = append(all, steps*part/5)
	}
	return append(all, steps-1, steps)
}

func outcome(kind, code int, print ...int) api.Outcome {
	return api.Outcome{Kind: kind, Code: code, Print: print}
}

func exit(print ...int) api.Outcome    { return outcome(api.OutExit, 0, print...) }
func failed(print ...int) api.Outcome  { return outcome(api.OutExit, 101, print...) }
func trapped(print ...int) api.Outcome { return outcome(api.OutTrap, 0, print...) }

// comes asks what functions come to, in the middle form and lowered.
func comes(t *testing.T, what string, want api.Outcome, l ...api.Mir) {
	t.Helper()
	comesWith(t, what, want, nil, l...)
}

func comesWith(t *testing.T, what string, want api.Outcome, input []int, l ...api.Mir) {
	t.Helper()
	if got := runs(t, what, nil, l, input, 100_000); !alike(got, want) {
		t.Errorf("%s: %.500s, not %.500s", what, fmt.Sprint(got), fmt.Sprint(want))
	}
}
