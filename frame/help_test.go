package frame_test

import (
	"fmt"
	"slices"
	"testing"

	"ferrule/api"
	"ferrule/asm"
	"ferrule/frame"
	"ferrule/low"
	"ferrule/mem"
	"ferrule/regalloc"
	"ferrule/rvsim"
)

const (
	zero   = api.RegZero
	within = api.RegFrame
)

func li(d, n int) api.Low { return api.Low{Op: api.LoLi, D: d, N: n} }
func mv(d, a int) api.Low { return api.Low{Op: api.LoMv, D: d, A: a} }
func bin(d, a int, op string, b int) api.Low {
	return api.Low{Op: api.LoBin, D: d, A: a, Text: op, B: b}
}
func imm(d, a int, op string, n int) api.Low {
	return api.Low{Op: api.LoImm, D: d, A: a, Text: op, N: n}
}
func lw(d, a, bytes int) api.Low { return api.Low{Op: api.LoLw, D: d, A: a, N: bytes} }
func sw(a, bytes, b int) api.Low { return api.Low{Op: api.LoSw, A: a, N: bytes, B: b} }
func calls(dsts []int, name string, args ...int) api.Low {
	return api.Low{Op: api.LoCall, Text: name, Dsts: dsts, Args: args}
}
func show(a int) api.Low         { return api.Low{Op: api.LoPrint, A: a} }
func showFrom0(a int) api.Low    { return api.Low{Op: api.LoPrint, A: a, N: 1} }
func read(d int) api.Low         { return api.Low{Op: api.LoRead, D: d} }
func alloc(d, words int) api.Low { return api.Low{Op: api.LoAlloc, D: d, N: words} }
func free(a int) api.Low         { return api.Low{Op: api.LoFree, A: a} }

func jump(to int) api.LowTerm { return api.LowTerm{Kind: api.TeGoto, To: to} }
func branch(a int, text string, b, to, otherwise int) api.LowTerm {
	return api.LowTerm{Kind: api.TeIf, A: a, Text: text, B: b, To: to, Else: otherwise}
}
func answer(args ...int) api.LowTerm { return api.LowTerm{Kind: api.TeReturn, Args: args} }
func fail() api.LowTerm              { return api.LowTerm{Kind: api.TePanic} }

func block(end api.LowTerm, list ...api.Low) api.LowBlock {
	return api.LowBlock{List: list, Term: end}
}

// fn is a function with so many registers and answers, and so many words of a frame.
func fn(name string, regs int, params []int, answers, words int, blocks ...api.LowBlock) api.LowFunc {
	return api.LowFunc{Name: name, Regs: regs, Params: params, Answers: answers, Frame: words, Blocks: blocks}
}

func quiet(f api.LowFunc) api.LowFunc {
	f.Quiet = true
	return f
}

// starts is a main of one block.
func starts(regs, words int, list ...api.Low) api.LowFunc {
	return fn("main", regs, nil, 0, words, block(answer(), list...))
}

func regs(list ...int) []int { return list }

// plenty is more fuel than a test's functions need.
const plenty = 1 << 20

func outcome(kind, code int, print ...int) api.Outcome {
	return api.Outcome{Kind: kind, Code: code, Print: print}
}

func exit(print ...int) api.Outcome   { return outcome(api.OutExit, 0, print...) }
func failed(print ...int) api.Outcome { return outcome(api.OutExit, 101, print...) }

func alike(a, b api.Outcome) bool {
	return a.Kind == b.Kind && a.Code == b.Code && slices.Equal(a.Print, b.Print)
}

// told cuts what was printed, so that it can be read.
func told(o api.Outcome) string { return fmt.Sprintf("%.2000s", fmt.Sprint(o)) }

// lines asks for the lines of functions, and that asm takes them.
func lines(t *testing.T, what string, l []api.LowFunc) []uint32 {
	t.Helper()
	a, e := frame.Lines(l)
	if e != api.OK {
		t.Fatalf("%s: Lines tells %d", what, int(e))
	}
	w, e := asm.Assemble(a)
	if e != api.OK {
		t.Fatalf("%s: Assemble tells %d", what, int(e))
	}
	return w
}

// run is lines that were assembled, and the machine that runs them.
type run struct {
	t    *testing.T
	what string
	*rvsim.Machine
}

func begin(t *testing.T, what string, input []int, l []api.LowFunc) *run {
	t.Helper()
	m, e := rvsim.New(lines(t, what, l), input)
	if e != api.OK {
		t.Fatalf("%s: New tells %d", what, int(e))
	}
	return &run{t, what, m}
}

// holdWith runs functions in the low form, and their lines, and holds both against one another (P26.3, P26.4): with fuel enough, if so much is, and with too little.
func holdWith(t *testing.T, what string, fuel int, input []int, l ...api.LowFunc) api.Outcome {
	t.Helper()
	want, n := low.Run(l, input, fuel)
	if want.Kind == api.OutTrap {
		t.Fatalf("%s: it is OutTrap", what)
	}
	r := begin(t, what, input, l)
	got := r.inParts(want, n)
	if want.Kind != api.OutFuel && !alike(got, want) {
		t.Fatalf("%s: %s, not %s; %d steps", what, told(got), told(want), n)
	}
	if got.Kind == api.OutExit && got.Code == 0 && (r.Reg(2) != mem.End || r.Reg(27) != 0) {
		t.Fatalf("%s: x2 is %d, x27 is %d", what, r.Reg(2), r.Reg(27))
	}
	now, _ := low.Run(l, input, n/2)
	r.sameBeginning(got, now)
	return want
}

// inParts runs, in some parts, as far as so many steps of the low form let it.
func (r *run) inParts(want api.Outcome, steps int) api.Outcome {
	r.t.Helper()
	did := 0
	var got api.Outcome
	for _, fuel := range []int{0, 1, steps / 2, steps, 3 * steps, 7 * steps, 30*steps + 100} {
		if fuel > did || fuel == 0 {
			got, did = r.Run(fuel - did)
			r.sameBeginning(got, want)
		}
	}
	return got
}

// sameBeginning asks whether one of two outcomes printed a beginning of what the other one did.
func (r *run) sameBeginning(got, want api.Outcome) {
	r.t.Helper()
	many := min(len(got.Print), len(want.Print))
	if got.Kind == api.OutTrap || !slices.Equal(got.Print[:many], want.Print[:many]) {
		r.t.Fatalf("%s: %s, not %s", r.what, told(got), told(want))
	}
}

// hold is holdWith of functions that end soon.
func hold(t *testing.T, what string, l ...api.LowFunc) api.Outcome {
	t.Helper()
	return holdWith(t, what, plenty, nil, l...)
}

// comes asks what functions come to.
func comes(t *testing.T, what string, want api.Outcome, l ...api.LowFunc) {
	t.Helper()
	if got := hold(t, what, l...); !alike(got, want) {
		t.Fatalf("%s: %s, not %s", what, told(got), told(want))
	}
}

// crowd is how many more registers functions get, whose numbers are ahead of the others', that are needed up to near their ends; the functions' own ones are needed longer, so that these are the ones that lie in slots. They are set when a call begins, or never. Of its own ones, that with the number turn is the first one that is no more needed.
type crowd struct {
	many int
	set  bool
	turn int
}

func (c crowd) all(l []api.LowFunc) []api.LowFunc {
	var out []api.LowFunc
	for _, f := range l {
		out = append(out, c.of(f))
	}
	return out
}

func (c crowd) of(f api.LowFunc) api.LowFunc {
	own := f.Regs
	f.Regs += c.many
	f.Params = behind(f.Params, c.many)
	blocks := f.Blocks
	f.Blocks = nil
	for at, b := range blocks {
		var list []api.Low
		for k := 0; k < c.many && at == 0 && c.set; k++ {
			list = append(list, li(k, 1000*k+7))
		}
		for _, in := range b.List {
			in.D, in.A, in.B = moved(in.D, c.many), moved(in.A, c.many), moved(in.B, c.many)
			in.Args, in.Dsts = behind(in.Args, c.many), behind(in.Dsts, c.many)
			list = append(list, in)
		}
		end := b.Term
		end.A, end.B, end.Args = moved(end.A, c.many), moved(end.B, c.many), behind(end.Args, c.many)
		if end.Kind == api.TeReturn || end.Kind == api.TePanic {
			list = append(list, c.ends(own)...)
		}
		f.Blocks = append(f.Blocks, block(end, list...))
	}
	return f
}

// ends prints the sum of the crowd, and then reads the function's own registers.
func (c crowd) ends(own int) []api.Low {
	if c.many == 0 {
		return nil
	}
	var list []api.Low
	for k := 1; k < c.many; k++ {
		list = append(list, bin(0, 0, "add", k))
	}
	list = append(list, show(0))
	for k := range own {
		list = append(list, mv(0, c.many+(c.turn+k)%own))
	}
	return list
}

func moved(reg, many int) int {
	if reg < 0 {
		return reg
	}
	return reg + many
}

func behind(list []int, many int) []int {
	var out []int
	for _, reg := range list {
		out = append(out, moved(reg, many))
	}
	return out
}

// holdCrowded is hold, with the functions' registers in registers and in slots.
func holdCrowded(t *testing.T, what string, input []int, l ...api.LowFunc) {
	t.Helper()
	for many := range 21 {
		c := crowd{many, many%2 == 0, many * 5 % 8}
		holdWith(t, fmt.Sprint(what, ", behind ", c), plenty, input, c.all(l)...)
	}
}

// inSlots tells which of some registers lie in slots: s, or r.
func inSlots(t *testing.T, f api.LowFunc, list ...int) string {
	t.Helper()
	at, _, e := regalloc.Assign(f)
	if e != api.OK {
		t.Fatal("no places:", int(e))
	}
	text := ""
	for _, reg := range list {
		switch {
		case reg < 0:
			text += "-"
		case at[reg] < 0:
			text += "s"
		default:
			text += "r"
		}
	}
	return text
}
