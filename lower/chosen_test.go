package lower_test

import (
	"fmt"
	"math"
	"strconv"
	"testing"

	"ferrule/api"
	"ferrule/layout"
	"ferrule/mir"
)

// P18.3: which instructions are chosen.

// inLow are the operations that can have their second operand in themselves, and by which one they do.
var inLow = map[string]string{"add": "add", "sub": "add", "and": "and", "or": "or", "xor": "xor", "slt": "slt", "sltu": "sltu", "sll": "sll", "srl": "srl", "sra": "sra"}

var allOperations = []string{"add", "sub", "mul", "mulh", "mulhu", "div", "divu", "rem", "remu", "and", "or", "xor", "sll", "srl", "sra", "slt", "sltu"}

// edges are numbers around those that fit: as they are, as bits, negative, and wider than a word.
func edges() []int {
	all := []int{math.MinInt, math.MaxInt, 1 << 31, -1 << 31, 1<<31 - 1, 1<<32 - 1, 1 << 32, -1 << 32, 4096, -4096, 12345}
	for _, near := range []int{0, 31, 2047, -2047, -31, 1<<32 + 31, 1<<32 - 2047, 1<<32 + 2047, -1<<32 - 2047, 1 << 20} {
		for on := -2; on <= 2; on++ {
			all = append(all, near+on)
		}
	}
	return all
}

// TestNumberInside: an OpBin of a plain Dst, a plain A and a number that fits is one LoImm, and nothing else.
func TestNumberInside(t *testing.T) {
	inside, outside := map[string]int{}, map[string]int{}
	for _, op := range allOperations {
		for _, number := range edges() {
			for _, dst := range []int{0, 1} { // A itself, or another one
				f := fn("f", scalars(2), 2, 1, block(answer(v(dst)), bin(dst, v(0), op, n(number))))
				out := lowered(t, f)[0]
				what := fmt.Sprintf("v%d = v0 %s %d", dst, op, number)
				list, regs := out.Blocks[0].List, out.Params
				if !fits(op, number) {
					outside[op]++
					wantNoWord(t, what, list, number)
					wantWord(t, what, op, number, f)
					continue
				}
				inside[op]++
				want := api.Low{Op: api.LoImm, D: regs[dst], A: regs[0], Text: inLow[op], N: number}
				if op == "sub" {
					want.N = -number
				}
				if len(out.Blocks) != 1 || len(list) != 1 || fmt.Sprint(list[0]) != fmt.Sprint(want) || out.Blocks[0].Term.Args[0] != regs[dst] {
					t.Errorf("%s is told as %v", what, list)
				}
				wantWord(t, what, op, number, f)
			}
		}
	}
	for op, by := range inLow {
		if inside[op] < 10 || outside[op] < 10 || by == "" {
			t.Errorf("%s: %d that fit, %d that do not", op, inside[op], outside[op])
		}
	}
}

// wantNoWord: what does not fit stands in no LoImm but as its word.
func wantNoWord(t *testing.T, what string, list []api.Low, number int) {
	t.Helper()
	for _, in := range list {
		if in.Op == api.LoImm && !layout.Fits(in.N, in.Text == "sll" || in.Text == "srl" || in.Text == "sra") {
			t.Errorf("%s is told as %v", what, list)
		}
		if in.Op == api.LoLi && in.N != int(int32(number)) {
			t.Errorf("%s is told as %v", what, list)
		}
	}
}

// wantWord asks what a function of two words comes to that does an operation with its first one and a number.
func wantWord(t *testing.T, what, op string, number int, f api.Mir) {
	t.Helper()
	for _, a := range []int{0, 1, -1, 5, 4000, 1 << 31, 1<<31 - 1, -2048} {
		want, _ := mir.Do(op, a, number)
		comes(t, what+" of "+strconv.Itoa(a), exit(want), starts(scalars(1), calls([]int{0}, "f", n(a), n(9)), show(v(0))), f)
	}
}

// Where the Dst or A lies in the frame, a number that fits still stands in a LoImm, and not in a register; as the first operand, too, where it does not matter which is the first one.
func TestNumberInsideOfFrames(t *testing.T) {
	for op := range inLow {
		for _, number := range []int{0, 1, 7, 31} {
			for which, places := range [][]api.Place{{}, {at(0)}, {at(1)}, {at(0), at(1)}} {
				f := fn("f", scalars(3), 2, 1, block(answer(v(1)), bin(1, v(0), op, n(number))))
				for _, p := range places { // behind it, where nothing comes to
					f.Blocks = append(f.Blocks, block(fail(), addr(2, p)))
				}
				what := fmt.Sprintf("%d: %s %d", which, op, number)
				wantInside(t, what, lowered(t, f)[0], 1)
				wantWord(t, what, op, number, f)
			}
			turned := fn("f", scalars(2), 2, 1, block(answer(v(1)), bin(1, n(number), op, v(0))))
			if out := lowered(t, turned)[0]; op == "add" || op == "and" || op == "or" || op == "xor" {
				wantInside(t, "turned, "+op, out, 1)
			}
			for _, a := range []int{0, 3, -1, 1 << 31} {
				want, _ := mir.Do(op, number, a)
				comes(t, op+" turned", exit(want), starts(scalars(1), calls([]int{0}, "f", n(a), n(9)), show(v(0))), turned)
			}
		}
	}
}

// wantInside: so many numbers stand in a LoImm, and none in a register.
func wantInside(t *testing.T, what string, f api.LowFunc, many int) {
	t.Helper()
	inside := 0
	for _, in := range f.Blocks[0].List {
		if in.Op == api.LoLi || in.Op == api.LoBin {
			t.Errorf("%s is told as %v", what, f.Blocks[0].List)
		}
		if in.Op == api.LoImm {
			inside++
		}
	}
	if inside != many {
		t.Errorf("%s is told as %v", what, f.Blocks[0].List)
	}
}

// Both operands may be numbers, of any operation.
func TestTwoNumbers(t *testing.T) {
	for _, op := range allOperations {
		for _, a := range []int{0, 1, -7, 5000, 1 << 31, 1<<32 + 3} {
			for _, b := range []int{0, 1, -7, 31, 2047, 5000, 1 << 31, 1<<32 + 3} {
				want, _ := mir.Do(op, a, b)
				comes(t, op, exit(want, want), starts([]int{1, 1, 1}, bin(0, n(a), op, n(b)), show(v(0)), bin(1, n(a), op, n(b)), addr(2, at(1)), show(v(1))))
			}
		}
	}
}

// asking is a function of three words that compares two operands into its local 2, right ahead of an end that asks for that, and then does something more.
func asking(op string, a, b api.Operand, list ...api.Instr) api.Mir {
	return fn("f", scalars(4), 3, 1,
		block(branch(v(2), 1, 2), bin(2, a, op, b)),
		block(answer(n(1)), list...), block(answer(n(0))))
}

var comparisons = map[string]string{"slt": "lt", "sltu": "ltu", "xor": "ne"}

// TestComparison: the end is the comparison itself.
func TestComparison(t *testing.T) {
	for op, text := range comparisons {
		for which, f := range []api.Mir{
			asking(op, v(0), v(1)), asking(op, v(1), v(0)), asking(op, v(0), v(0)), asking(op, v(2), v(1)), asking(op, v(0), v(2)),
			asking(op, v(0), v(1), set(2, n(5)), show(v(2))), asking(op, v(0), v(1), read(2), show(v(2))),
		} {
			in := f.Blocks[0].List[0]
			out := lowered(t, f)[0]
			b, regs := out.Blocks[0], out.Params
			want := api.LowTerm{Kind: api.TeIf, A: regs[in.A.N], B: regs[in.B.N], To: 1, Else: 2, Text: text}
			if len(b.List) != 0 || fmt.Sprint(b.Term) != fmt.Sprint(want) || len(out.Blocks) != 3 {
				t.Errorf("%s, %d is told as %v", op, which, out.Blocks)
			}
			wantAsked(t, f)
		}
	}
}

// With a number the end is the comparison, too; one that fits stands in a LoImm, and in no LoLi.
func TestComparisonWithNumber(t *testing.T) {
	for op, text := range comparisons {
		for _, number := range edges() {
			f := asking(op, v(0), n(number))
			out := lowered(t, f)[0]
			b := out.Blocks[0]
			word := int(int32(number))
			list := "[]"
			switch {
			case word == 0:
				if b.Term.B != zero {
					t.Errorf("%s %d is told as %v", op, number, b)
				}
			case fits(op, word):
				list = fmt.Sprint([]api.Low{{Op: api.LoImm, D: b.Term.B, A: zero, Text: "add", N: word}})
			default:
				list = fmt.Sprint([]api.Low{{Op: api.LoLi, D: b.Term.B, N: word}})
			}
			if b.Term.Text != text || b.Term.A != out.Params[0] || fmt.Sprint(b.List) != list {
				t.Errorf("%s %d is told as %v", op, number, b)
			}
			wantAsked(t, f)
			turned := asking(op, n(number), v(0))
			if b := lowered(t, turned)[0].Blocks[0]; b.Term.Text != text || len(b.List) > 1 {
				t.Errorf("%d %s is told as %v", number, op, b)
			}
			wantAsked(t, turned)
			wantAsked(t, asking(op, n(number), n(7)))
			wantAsked(t, asking(op, n(7), n(number)))
		}
	}
}

// wantAsked asks what a function of three words comes to.
func wantAsked(t *testing.T, f api.Mir) {
	t.Helper()
	words := []int{0, 1, -1, 7, 1 << 31, 2047}
	for _, a := range words {
		for _, b := range words {
			for _, c := range []int{0, 1} {
				runs(t, f.Blocks[0].List[0].Text, nil, []api.Mir{f, starts(scalars(1), calls([]int{0}, "f", n(a), n(b), n(c)), show(v(0)))}, []int{4}, 100)
			}
		}
	}
}

// Where the comparison's word is used by something else too, stands not right ahead of the end, or is another one, it is there.
func TestComparisonThatIsUsed(t *testing.T) {
	for op := range comparisons {
		first := bin(2, v(0), op, v(1))
		end := block(answer(n(0)))
		for what, f := range map[string]api.Mir{
			"used in a block behind it":             fn("f", scalars(4), 3, 1, block(branch(v(2), 1, 2), first), block(answer(v(2))), end),
			"used where it does not hold":           fn("f", scalars(4), 3, 1, block(branch(v(2), 1, 2), first), end, block(answer(v(2)))),
			"used far behind it":                    fn("f", scalars(4), 3, 1, block(branch(v(2), 1, 2), first), block(jump(3)), end, block(jump(4)), block(answer(v(2)))),
			"used as an index":                      fn("f", []int{1, 1, 1, 2}, 3, 1, block(branch(v(2), 1, 2), bin(2, v(0), "sltu", v(1))), block(answer(v(0)), load(0, at(3, times(2, 1)))), end),
			"used by a call":                        fn("f", scalars(4), 3, 1, block(branch(v(2), 1, 2), first), block(answer(n(1)), calls(nil, "g", v(2))), end),
			"used by a store":                       fn("f", []int{1, 1, 1, 2}, 3, 1, block(branch(v(2), 1, 2), first), block(answer(v(0)), store(at(3), v(2)), load(0, at(3))), end),
			"used in a loop":                        fn("f", scalars(4), 3, 1, block(jump(1), set(3, n(0))), block(branch(v(2), 2, 3), bin(3, v(3), "add", v(2)), bin(2, v(0), op, v(1)), bin(0, v(0), "add", n(1)), bin(2, v(2), "and", n(1)), bin(2, v(2), "xor", n(0))), block(jump(1)), block(answer(v(3)))),
			"used by itself in a loop":              fn("f", scalars(4), 3, 1, block(branch(v(2), 1, 2), bin(2, v(2), op, v(1))), block(branch(v(3), 2, 0), bin(3, v(3), "add", n(1)), bin(3, v(3), "slt", n(3))), block(answer(v(3)))),
			"used ahead of it":                      fn("f", scalars(4), 3, 1, block(branch(v(2), 1, 2), show(v(2)), first), block(answer(n(1))), end),
			"not right ahead":                       fn("f", scalars(4), 3, 1, block(branch(v(2), 1, 2), first, show(n(1))), block(answer(n(1))), end),
			"not right ahead, and changed between":  fn("f", scalars(4), 3, 1, block(branch(v(2), 1, 2), first, bin(0, v(1), "add", n(1))), block(answer(v(0))), end),
			"in a block ahead":                      fn("f", scalars(4), 3, 1, block(jump(3), first), block(answer(n(1))), end, block(branch(v(2), 1, 2))),
			"another one right ahead":               fn("f", scalars(4), 3, 1, block(branch(v(2), 1, 2), first, bin(3, v(0), op, v(1))), block(answer(v(3))), end),
			"another one is asked for":              fn("f", scalars(4), 3, 1, block(branch(v(1), 1, 2), first), block(answer(v(2))), end),
			"in the frame":                          fn("f", scalars(4), 3, 1, block(branch(v(2), 1, 2), first), block(answer(v(0)), addr(3, at(2)), load(0, at(3, held()))), end),
			"the operands in the frame":             fn("f", scalars(4), 3, 1, block(branch(v(2), 1, 2), first), block(answer(v(0)), addr(3, at(0)), store(at(3, held()), n(5)), addr(3, at(1))), end),
			"a number":                              fn("f", scalars(4), 3, 1, block(branch(n(7), 1, 2), first), block(answer(v(2))), end),
			"the number 0":                          fn("f", scalars(4), 3, 1, block(branch(n(0), 1, 2), first), end, block(answer(v(2)))),
			"a number that is 0 as a word":          fn("f", scalars(4), 3, 1, block(branch(n(1<<32), 1, 2), first), end, block(answer(v(2)))),
			"it goes to its own block":              fn("f", scalars(4), 3, 1, block(jump(1)), block(branch(v(2), 1, 2), bin(0, v(0), "add", n(1)), bin(0, v(0), "and", n(15)), show(v(0)), bin(2, v(0), op, n(9))), end),
			"it goes to one block alone":            fn("f", scalars(4), 3, 1, block(branch(v(2), 1, 1), first), block(answer(v(0)))),
			"one local for several comparisons":     fn("f", scalars(4), 3, 1, block(branch(v(2), 1, 2), first), block(branch(v(2), 2, 3), bin(2, v(1), op, n(3))), block(answer(n(2))), block(branch(v(2), 2, 4), bin(2, v(1), op, v(0))), block(answer(n(4)))),
			"the word of a word that is asked":      fn("f", scalars(4), 3, 1, block(branch(v(3), 1, 2), first, bin(3, v(2), "xor", n(0))), block(answer(n(1))), end),
			"the word of a word that is asked, too": fn("f", scalars(4), 3, 1, block(branch(v(3), 1, 2), first, bin(3, v(2), "slt", n(0))), block(answer(n(1))), end),
			"a word that is held against another":   fn("f", scalars(4), 3, 1, block(branch(v(3), 1, 2), first, bin(3, v(2), "xor", v(1))), block(answer(n(1))), end),
			"a word that is held against a number":  fn("f", scalars(4), 3, 1, block(branch(v(3), 1, 2), first, bin(3, v(2), "xor", n(1))), block(answer(n(1))), end),
			"the word of a word that is needed":     fn("f", scalars(4), 3, 1, block(branch(v(3), 1, 2), first, bin(3, v(2), "xor", n(0))), block(answer(v(2))), end),
		} {
			words := []int{0, 1, -1, 3, 8, 1 << 31}
			for _, a := range words {
				for _, b := range words {
					l := []api.Mir{f, fn("g", scalars(1), 1, 0, block(answer(), show(v(0)))), starts(scalars(1), calls([]int{0}, "f", n(a), n(b), n(1)), show(v(0)))}
					runs(t, op+", "+what, nil, l, nil, 300)
				}
			}
		}
	}
}

// Of one local for several comparisons, none of whose words is needed behind its end, each end is the comparison itself.
func TestComparisonsOfOneLocal(t *testing.T) {
	f := fn("f", scalars(3), 3, 0, block(branch(v(2), 1, 2), bin(2, v(0), "slt", v(1))), block(branch(v(2), 2, 3), bin(2, v(0), "sltu", v(1))), block(branch(v(2), 3, 0), bin(2, v(0), "xor", v(1))), block(answer()))
	out := lowered(t, f)[0]
	for k, text := range []string{"lt", "ltu", "ne"} {
		if b := out.Blocks[k]; len(b.List) > 0 || b.Term.Text != text {
			t.Errorf("%v", b)
		}
	}
	f.Blocks[3] = block(answer(), show(v(2)))
	out = lowered(t, f)[0]
	for k, text := range []string{"lt", "ne", "ne"} { // the last block needs it of the second one and the third one
		if b := out.Blocks[k]; b.Term.Text != text || (len(b.List) == 0) != (k == 0) {
			t.Errorf("%v", b)
		}
	}
}

// Other operations that are asked for right ahead are no comparisons.
func TestOtherWordsThatAreAsked(t *testing.T) {
	for _, op := range allOperations {
		if comparisons[op] != "" {
			continue
		}
		for _, f := range []api.Mir{asking(op, v(0), v(1)), asking(op, v(0), n(7)), asking(op, n(7), v(1)), asking(op, v(2), v(2))} {
			b := lowered(t, f)[0].Blocks[0]
			if b.Term.Text != "ne" || b.Term.B != zero || len(b.List) == 0 {
				t.Errorf("%s is told as %v", op, b)
			}
			wantAsked(t, f)
		}
	}
}
