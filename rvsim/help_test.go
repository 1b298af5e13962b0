package rvsim_test

import (
	"math"
	"math/rand"
	"slices"
	"sync"
	"testing"

	"ferrule/api"
	"ferrule/heap"
	"ferrule/insn"
	"ferrule/mem"
	"ferrule/rvsim"
)

// The registers that an ecall reads.
const (
	a0 = 10
	a7 = 17
)

// ends are both ends of a word and of its halves and bytes, and what is beside them.
func ends() []int {
	l := []int{}
	for _, n := range []int{0, 7, 8, 11, 12, 15, 16, 30, 31} {
		for by := -2; by <= 2; by++ {
			l = append(l, int(int32(1<<n+by)), int(int32(-1<<n+by)))
		}
	}
	slices.Sort(l)
	return append(slices.Compact(l), 0x55555555, -0x55555555, 32, 33, 63)
}

// wordByChance tells one of any size.
func wordByChance(r *rand.Rand) int {
	if r.Intn(3) == 0 {
		l := ends()
		return l[r.Intn(len(l))]
	}
	return int(int32(r.Uint32())) >> r.Intn(32)
}

// encodings keeps the words that were asked for, as many are asked for again and again.
var encodings sync.Map

func encoded(i api.Insn) uint32 {
	if w, had := encodings.Load(i); had {
		return w.(uint32)
	}
	w, ok := insn.Encode(i)
	if !ok {
		panic(i.Op)
	}
	encodings.Store(i, w)
	return w
}

// code is the words of instructions.
func code(l ...api.Insn) []uint32 {
	words := make([]uint32, len(l))
	for k, i := range l {
		words[k] = encoded(i)
	}
	return words
}

// li are the two instructions that lay a word in a register.
func li(register, v int) []api.Insn {
	upper := (v + 1<<11) >> 12
	return []api.Insn{
		{Op: "lui", Rd: register, Imm: upper & (1<<20 - 1)},
		{Op: "addi", Rd: register, Rs1: register, Imm: v - upper<<12},
	}
}

// asks are the instructions of an ecall with a word in a0.
func asks(call, given int) []api.Insn {
	return slices.Concat(li(a0, given), li(a7, call), []api.Insn{{Op: "ecall"}})
}

// calls are the instructions of an ecall that leaves a0 as it is.
func calls(call int) []api.Insn {
	return append(li(a7, call), api.Insn{Op: "ecall"})
}

func joined(parts ...[]api.Insn) []uint32 {
	return code(slices.Concat(parts...)...)
}

func made(t *testing.T, words []uint32, input ...int) *rvsim.Machine {
	t.Helper()
	m, e := rvsim.New(words, input)
	if m == nil || e != api.OK {
		t.Fatalf("New of %d words = %v, %d", len(words), m, int(e))
	}
	return m
}

// pair is a machine with the plain one of the same code and input.
type pair struct {
	m *rvsim.Machine
	p *plain
}

func newPair(t *testing.T, words []uint32, input ...int) pair {
	t.Helper()
	return pair{made(t, words, input...), newPlain(words, input)}
}

// step runs an instruction of both.
func (b pair) step(t *testing.T) bool {
	t.Helper()
	got, want := b.m.Step(), b.p.step()
	if got != want {
		t.Fatalf("step %d at %d: Step = %v, not %v", b.p.steps, b.p.pc, got, want)
	}
	b.registers(t)
	return got
}

// registers holds them, and the pc, against the plain ones.
func (b pair) registers(t *testing.T) {
	t.Helper()
	for k := range 32 {
		if got, want := b.m.Reg(k), signed(b.p.x[k], 4); got != want {
			t.Fatalf("behind step %d: x%d = %d, not %d", b.p.steps, k, got, want)
		}
	}
	if got, want := b.m.Pc(), signed(b.p.pc, 4); got != want {
		t.Fatalf("behind step %d: the pc is %d, not %d", b.p.steps, got, want)
	}
}

// outcome holds what is told of the run against the plain telling.
func (b pair) outcome(t *testing.T) {
	t.Helper()
	same(t, b.m, 0, b.p.outcome(), b.p.steps)
}

// all holds everything that can be asked against the plain machine.
func (b pair) all(t *testing.T) {
	t.Helper()
	b.registers(t)
	b.outcome(t)
	want := map[int]int{}
	for at := range b.p.bytes {
		want[at-at%4] = signed(b.p.load(at-at%4, 4), 4)
	}
	for at := 0; at < mem.End; at += 4 {
		if got, e := b.m.Peek(at); got != want[at] || e != api.OK {
			t.Fatalf("Peek(%d) = %d, %d, not %d", at, got, int(e), want[at])
		}
	}
}

// run runs both to the end, or so many steps, and holds everything against each other.
func (b pair) run(t *testing.T, most int) {
	t.Helper()
	for range most {
		if !b.step(t) {
			break
		}
	}
	b.all(t)
}

// same runs a machine and holds what it tells against an outcome and a count.
func same(t *testing.T, m *rvsim.Machine, fuel int, want api.Outcome, steps int) {
	t.Helper()
	o, n := m.Run(fuel)
	if o.Kind != want.Kind || o.Code != want.Code || !slices.Equal(o.Print, want.Print) || n != steps {
		t.Fatalf("Run(%d) = %s, %d, not %s, %d", fuel, told(o), n, told(want), steps)
	}
}

// runs runs code to its end, in a pair, and holds what it comes to against an outcome.
func runs(t *testing.T, words []uint32, input []int, want api.Outcome) {
	t.Helper()
	b := newPair(t, words, input...)
	b.run(t, 100000)
	same(t, b.m, 0, want, b.p.steps)
	o, n := made(t, words, input...).Run(math.MaxInt)
	if o.Kind != want.Kind || o.Code != want.Code || !slices.Equal(o.Print, want.Print) || n != b.p.steps {
		t.Fatalf("at once: %s, %d, not %s, %d", told(o), n, told(want), b.p.steps)
	}
}

// traps runs so many instructions, and asks that the next one is OutTrap, and changes nothing else.
func traps(t *testing.T, words []uint32, ahead int, input ...int) {
	t.Helper()
	b := newPair(t, words, input...)
	for range ahead {
		if !b.step(t) {
			t.Fatalf("step %d: the run is over", b.p.steps)
		}
	}
	if b.step(t) || b.p.kind != api.OutTrap {
		t.Fatalf("step %d: no trap", b.p.steps)
	}
	b.all(t)
	for range 3 {
		if b.m.Step() {
			t.Fatal("a run that is over goes on")
		}
	}
	b.all(t)
	if b.p.steps != ahead+1 {
		t.Fatalf("%d steps", b.p.steps)
	}
}

// blockAt tells where the first block for so many words lies.
func blockAt(words int) int {
	at, e := heap.New().Alloc(words)
	if e != api.OK {
		panic(words)
	}
	return at
}
