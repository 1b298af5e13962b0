package rvsim_test

import (
	"math"
	"slices"
	"testing"

	"ferrule/api"
	"ferrule/mem"
	"ferrule/rvsim"
)

// P25.4: Run, Reg, Pc and Peek; and those of machines that New did not make.

// some is a run of several instructions that prints ahead of its end.
func some() []api.Insn {
	return slices.Concat(asks(1, 1), calls(1), li(5, 40), []api.Insn{{Op: "sw", Rs1: 2, Rs2: 5, Imm: -8}}, calls(2), asks(6, 12))
}

func TestFuel(t *testing.T) {
	l := some()
	all := api.Outcome{Kind: api.OutExit, Code: 12, Print: []int{1, 1, 1}}
	for _, fuel := range []int{len(l), len(l) + 1, len(l) + 2, 1000, 1 << 40, math.MaxInt - 1, math.MaxInt} {
		same(t, made(t, code(l...)), fuel, all, len(l))
	}
	for fuel := range len(l) {
		want := newPlain(code(l...), nil)
		for range fuel {
			want.step()
		}
		m := made(t, code(l...))
		same(t, m, fuel, api.Outcome{Kind: api.OutFuel, Print: want.printed}, fuel)
		if m.Pc() != 4*fuel {
			t.Fatalf("fuel %d: the pc is %d", fuel, m.Pc())
		}
		same(t, m, len(l)-fuel, all, len(l))
	}
	one := made(t, code(l...))
	same(t, one, len(l)-1, api.Outcome{Print: []int{1, 1, 1}}, len(l)-1)
	same(t, one, 1, all, len(l))
}

func TestNoFuel(t *testing.T) {
	for _, fuel := range []int{0, -1, -2, -1000, math.MinInt32, math.MinInt, math.MinInt + 1} {
		b := newPair(t, code(some()...))
		same(t, b.m, fuel, api.Outcome{}, 0)
		b.all(t)
		for range 6 {
			b.step(t)
		}
		same(t, b.m, fuel, api.Outcome{Print: []int{1}}, 6)
		b.run(t, 100)
		same(t, b.m, fuel, api.Outcome{Kind: api.OutExit, Code: 12, Print: []int{1, 1, 1}}, len(some()))
	}
}

// Behind the run's end everything stays as it is, whatever is called, for each way to end.
func TestBehindTheEnd(t *testing.T) {
	var full []api.Insn
	for range 9 {
		full = append(full, asks(4, 128)...)
	}
	for name, c := range map[string]struct {
		l    []api.Insn
		want api.Outcome
	}{
		"exit":   {asks(6, -3), api.Outcome{Kind: api.OutExit, Code: -3}},
		"zero":   {asks(6, 0), api.Outcome{Kind: api.OutExit}},
		"depth":  {asks(7, 5), api.Outcome{Kind: api.OutDepth}},
		"memory": {full, api.Outcome{Kind: api.OutMemory}},
		"break":  {[]api.Insn{{Op: "ebreak"}}, api.Outcome{Kind: api.OutTrap}},
		"call":   {asks(8, 5), api.Outcome{Kind: api.OutTrap}},
		"load":   {[]api.Insn{{Op: "lw", Rd: 5}}, api.Outcome{Kind: api.OutTrap}},
	} {
		c.want.Print = []int{1, 1, 1}
		ahead := some()
		ahead = ahead[:len(ahead)-5]
		l := slices.Concat(ahead, c.l)
		b := newPair(t, code(append(l, some()...)...))
		for range len(l) - 1 {
			if !b.step(t) {
				t.Fatalf("%s: it is over too early", name)
			}
		}
		if b.step(t) {
			t.Fatalf("%s: it goes on", name)
		}
		for _, fuel := range []int{0, 1, -1, 1000, math.MaxInt} {
			same(t, b.m, fuel, c.want, len(l))
			if b.m.Step() {
				t.Fatalf("%s: it goes on", name)
			}
		}
		b.all(t)
	}
}

// The instructions of all calls are counted, be they Steps or Runs.
func TestCount(t *testing.T) {
	b := newPair(t, code(api.Insn{Op: "jal"}))
	n := 0
	for _, fuel := range []int{3, 0, 1, 7, -4, 100, 1000} {
		n += max(fuel, 0)
		same(t, b.m, fuel, api.Outcome{}, n)
		for range 4 {
			if !b.m.Step() {
				t.Fatal("it is over")
			}
			n++
		}
		same(t, b.m, 0, api.Outcome{}, n)
	}
	same(t, b.m, 2000000, api.Outcome{}, n+2000000)
}

// What was printed is told by each Run, in memory of its own.
func TestPrintedIsNewMemory(t *testing.T) {
	m := made(t, joined(asks(1, 1), asks(1, 2), asks(1, 3), asks(6, 0)))
	var kept []api.Outcome
	for k := range 24 {
		o, _ := m.Run(1)
		again, _ := m.Run(0)
		if want := []int{1, 2, 3}[:min((k+1)/5, 3)]; !slices.Equal(o.Print, want) || !slices.Equal(again.Print, want) {
			t.Fatalf("behind %d: %s", k+1, told(o))
		}
		kept = append(kept, o)
		room := again.Print[:cap(again.Print)]
		for n := range room {
			room[n] = -9
		}
	}
	for k, o := range kept {
		if !slices.Equal(o.Print, []int{1, 2, 3}[:min((k+1)/5, 3)]) {
			t.Fatalf("the answer behind %d has changed: %s", k+1, told(o))
		}
	}
}

func TestReg(t *testing.T) {
	var l []api.Insn
	for k := range 32 {
		l = append(l, li(k, -k-5)...)
	}
	m := made(t, code(l...))
	m.Run(len(l))
	for k := range 32 {
		want := -k - 5
		if k == 0 {
			want = 0
		}
		if m.Reg(k) != want || m.Reg(k) != want {
			t.Fatalf("x%d = %d", k, m.Reg(k))
		}
	}
	for _, k := range []int{-1, -2, -32, -31, 32, 33, 63, 64, 256, 1 << 16, 1<<32 + 5, -1<<32 + 5, 1<<32 + 32, math.MinInt32, math.MaxInt32, math.MinInt, math.MinInt + 5, math.MaxInt, math.MaxInt - 1} {
		if m.Reg(k) != 0 {
			t.Errorf("Reg(%d) = %d", k, m.Reg(k))
		}
	}
}

// Peek tells what mem.Load tells of four bytes, with a sign, wherever it is asked, be the address used by loads or not.
func TestPeek(t *testing.T) {
	memory := mem.New()
	l := slices.Concat(asks(4, 3), []api.Insn{{Op: "add", Rd: 8, Rs1: a0}})
	for k, v := range ends() {
		l = slices.Concat(l, li(6, v), []api.Insn{{Op: "sw", Rs1: 2, Rs2: 6, Imm: -4 * (k + 1)}, {Op: "sw", Rs1: 8, Rs2: 6, Imm: k % 4 * 4}})
		memory.Store(mem.End-4*(k+1), 4, v)
		memory.Store(blockAt(3)+k%4*4, 4, v)
	}
	l = slices.Concat(l, asks(5, blockAt(3)))
	m := made(t, code(l...))
	same(t, m, len(l), api.Outcome{}, len(l))
	places := []int{math.MinInt, math.MinInt + 1, math.MinInt + 4, math.MinInt32, -1 << 20, -4, -1, 1 << 31, 1 << 32, 1<<32 + mem.End - 4, -1<<32 + mem.End - 4, math.MaxInt, math.MaxInt - 3, math.MaxInt - 4}
	for _, near := range []int{0, api.MaxCode, blockAt(3), blockAt(3) + 16, mem.Stack, mem.End - 200, mem.End} {
		for by := -9; by <= 9; by++ {
			places = append(places, near+by)
		}
	}
	for at := mem.End - 400; at < mem.End; at++ {
		places = append(places, at)
	}
	for _, at := range places {
		want, wantE := memory.Load(at, 4, true)
		for range 2 {
			if got, e := m.Peek(at); got != want || e != wantE {
				t.Fatalf("Peek(%d) = %d, %d, not %d, %d", at, got, int(e), want, int(wantE))
			}
		}
	}
}

func TestPeekErrors(t *testing.T) {
	m := made(t, nil)
	for at, want := range map[int]api.Errno{
		0: api.OK, mem.End - 4: api.OK, mem.End: api.ErrNone, mem.End + 4: api.ErrNone, -4: api.ErrNone, 1: api.ErrArg, 2: api.ErrArg, 3: api.ErrArg, mem.End - 1: api.ErrArg, mem.End + 1: api.ErrArg, -1: api.ErrArg,
		math.MinInt: api.ErrNone, math.MaxInt: api.ErrArg, math.MaxInt - 3: api.ErrNone, math.MinInt + 1: api.ErrArg,
	} {
		if got, e := m.Peek(at); got != 0 || e != want {
			t.Errorf("Peek(%d) = %d, %d", at, got, int(e))
		}
	}
}

// Asking changes nothing.
func TestAsksChangeNothing(t *testing.T) {
	b := newPair(t, code(some()...))
	for b.step(t) {
		for k := -2; k < 40; k++ {
			b.m.Reg(k)
			b.m.Peek(k)
		}
		b.m.Pc()
		b.m.Run(0)
		b.registers(t)
	}
	b.all(t)
}

// Of a machine that is nil, or that New did not make, nothing is told, and nothing is done.
func TestNotMade(t *testing.T) {
	for name, m := range map[string]*rvsim.Machine{"nil": nil, "plain": {}, "new": new(rvsim.Machine)} {
		for range 2 {
			if m.Step() {
				t.Errorf("%s: Step", name)
			}
			for _, fuel := range []int{0, 1, -1, 1000, math.MinInt, math.MaxInt} {
				if o, n := m.Run(fuel); o.Kind != 0 || o.Code != 0 || len(o.Print) != 0 || n != 0 {
					t.Errorf("%s: Run(%d) = %s, %d", name, fuel, told(o), n)
				}
			}
			for _, k := range []int{0, 2, 10, 31, 32, -1, math.MinInt, math.MaxInt} {
				if m.Reg(k) != 0 {
					t.Errorf("%s: Reg(%d) = %d", name, k, m.Reg(k))
				}
			}
			if m.Pc() != 0 {
				t.Errorf("%s: Pc = %d", name, m.Pc())
			}
			for _, at := range []int{0, 4, 1, mem.Stack, mem.End, -4, math.MinInt, math.MaxInt} {
				if v, e := m.Peek(at); v != 0 || e != api.ErrNil {
					t.Errorf("%s: Peek(%d) = %d, %d", name, at, v, int(e))
				}
			}
		}
	}
}
