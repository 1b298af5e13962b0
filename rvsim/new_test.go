package rvsim_test

import (
	"math"
	"slices"
	"testing"

	"ferrule/api"
	"ferrule/mem"
	"ferrule/rvsim"
)

// P25.1: New, and what a machine is at first.

func nothing(n int) []uint32 {
	words, w := make([]uint32, n), encoded(api.Insn{Op: "addi"})
	for k := range words {
		words[k] = w
	}
	return words
}

func TestAtFirst(t *testing.T) {
	for name, words := range map[string][]uint32{"nil": nil, "empty": {}, "one": nothing(1), "bad": {0}, "most": nothing(api.MaxCode / 4)} {
		m := made(t, words, 7, 8)
		for k := range 32 {
			want := 0
			if k == 2 {
				want = mem.End
			}
			if got := m.Reg(k); got != want {
				t.Fatalf("%s: x%d = %d", name, k, got)
			}
		}
		if m.Pc() != 0 {
			t.Fatalf("%s: the pc is %d", name, m.Pc())
		}
		same(t, m, 0, api.Outcome{}, 0)
		newPair(t, words, 7, 8).all(t)
	}
}

func TestTooMuchCode(t *testing.T) {
	for _, by := range []int{1, 2, 3, 4, 1000, api.MaxCode, 1 << 20} {
		m, e := rvsim.New(nothing(api.MaxCode/4+by), []int{1})
		if m != nil || e != api.ErrBig || int(e) != 3 {
			t.Errorf("%d words more: %v, %d", by, m, int(e))
		}
	}
	if m, e := rvsim.New(nothing(api.MaxCode/4+1), nil); m != nil || e != api.ErrBig {
		t.Error("no input:", int(e))
	}
	if m, e := rvsim.New(make([]uint32, api.MaxCode/4+1), nil); m != nil || e != api.ErrBig {
		t.Error("bad words:", int(e))
	}
	made(t, make([]uint32, api.MaxCode/4))
}

// The last word of the most code is run like all others, and behind it nothing is.
func TestMostCode(t *testing.T) {
	words := nothing(api.MaxCode / 4)
	m := made(t, words)
	same(t, m, len(words), api.Outcome{}, len(words))
	if m.Pc() != api.MaxCode {
		t.Fatal(m.Pc())
	}
	same(t, m, 5, api.Outcome{Kind: api.OutTrap}, len(words)+1)

	words[len(words)-1] = encoded(api.Insn{Op: "ecall"})
	words[0], words[1] = encoded(api.Insn{Op: "addi", Rd: a7, Imm: 6}), encoded(api.Insn{Op: "addi", Rd: a0, Imm: 9})
	same(t, made(t, words), math.MaxInt, api.Outcome{Kind: api.OutExit, Code: 9}, len(words))
}

// What was handed in is neither changed nor kept, and what lies behind its length is not read.
func TestHandedIn(t *testing.T) {
	room := joined(asks(1, 5), calls(3), calls(1), calls(3), calls(1), calls(3), calls(1))
	words := room[:len(room)-6]
	numbers := []int{10, 20, 30}
	input := numbers[:2]
	wantRoom, wantNumbers := slices.Clone(room), slices.Clone(numbers)
	want := newPlain(words, input)
	for want.step() {
	}
	m := made(t, words, input...)
	m.Run(1000)
	if !slices.Equal(room, wantRoom) || !slices.Equal(numbers, wantNumbers) {
		t.Fatal("what was handed in has changed")
	}
	if o, _ := m.Run(0); !slices.Equal(o.Print, []int{5, 10, 20}) || o.Kind != api.OutTrap {
		t.Fatal("it read behind a list's length:", told(o))
	}

	for ahead := range want.steps {
		m, e := rvsim.New(words, input)
		if e != api.OK {
			t.Fatal(int(e))
		}
		m.Run(ahead)
		clear(room)
		clear(numbers)
		same(t, m, 1000, want.outcome(), want.steps)
		copy(room, wantRoom)
		copy(numbers, wantNumbers)
	}
}

// Machines of the same code and input have nothing else in common.
func TestMachinesAreApart(t *testing.T) {
	words := joined(
		asks(4, 3), li(6, 77), []api.Insn{{Op: "sw", Rs1: a0, Rs2: 6}, {Op: "sw", Rs1: 2, Rs2: 6, Imm: -4}},
		calls(3), calls(1), asks(6, 3))
	input := []int{44}
	first, second := newPair(t, words, input...), newPair(t, words, input...)
	for range 12 {
		first.step(t)
	}
	second.all(t)
	second.run(t, 100)
	first.all(t)
	first.run(t, 100)
	third := newPair(t, words, input...)
	third.all(t)
	third.run(t, 100)
	same(t, third.m, 0, api.Outcome{Kind: api.OutExit, Code: 3, Print: []int{44}}, third.p.steps)
}
