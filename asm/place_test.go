package asm_test

import (
	"math"
	"slices"
	"testing"

	"ferrule/api"
	"ferrule/asm"
)

// The chapter's example.
func TestExample(t *testing.T) {
	w, e := asm.Assemble([]api.Asm{beq("x"), label("x")})
	if e != api.OK || !slices.Equal(w, []uint32{0x00208263}) {
		t.Errorf("%#x, %d", w, int(e))
	}
	for _, c := range []struct{ pads, words int }{{0, 1}, {1, 1}, {1022, 1}, {1023, 2}, {1024, 2}} {
		at, size, e := asm.Place([]api.Asm{beq("x"), pad(c.pads), label("x")})
		if want := []int{0, 4 * c.words, 4 * (c.words + c.pads)}; e != api.OK || !slices.Equal(at, want) || size != want[2] {
			t.Errorf("%d: %v, %d, %d", c.pads, at, size, int(e))
		}
	}
}

// P23.1: no lines at all.
func TestNoLines(t *testing.T) {
	for _, l := range [][]api.Asm{nil, {}, make([]api.Asm, 0, 5)} {
		if at, size, words, e := answers(t, l); len(at) != 0 || size != 0 || len(words) != 0 || e != api.OK {
			t.Error(at, size, words, int(e))
		}
	}
}

// P23.1: the size of each kind, alone, and where lines stand behind one another.
func TestSizes(t *testing.T) {
	for _, c := range []struct {
		line api.Asm
		size int
	}{
		{do(api.Insn{Op: "ecall"}), 4},
		{do(api.Insn{Op: "lui", Rd: 31, Imm: 1<<20 - 1}), 4},
		{jump(0, "x"), 4},
		{jump(31, "x"), 4},
		{beq("x"), 4},
		{pad(0), 0},
		{pad(1), 4},
		{pad(2), 8},
		{pad(777), 3108},
		{pad(8000), 32000},
		{pad(-1), 0},
		{pad(-2), 0},
		{pad(math.MinInt32), 0},
		{pad(math.MinInt), 0},
		{pad(math.MinInt + 1), 0},
	} {
		wantPlaces(t, []api.Asm{c.line, label("x")}, 0, c.size, c.size)
		wantPlaces(t, []api.Asm{label("x"), c.line}, 0, 0, c.size)
		wantPlaces(t, []api.Asm{label("x"), c.line, label("y"), pad(100), c.line, label("z")}, 0, 0, c.size, c.size, c.size+400, 2*c.size+400, 2*c.size+400)
	}
}

// wantPlaces asks where lines stand, and what is behind them.
func wantPlaces(t *testing.T, l []api.Asm, want ...int) {
	t.Helper()
	taken(t, l)
	if at, size, _ := asm.Place(l); !slices.Equal(append(at, size), want) {
		t.Fatalf("%s: %v, %d, not %v", short(l), at, size, want)
	}
}

// longIn tells which lines are long branches, by where Place says that they stand.
func longIn(l []api.Asm) []int {
	at, size, _ := asm.Place(l)
	at = append(at, size)
	var long []int
	for k, line := range l {
		if line.Kind == api.AsBranch && at[k+1]-at[k] == 8 {
			long = append(long, k)
		}
	}
	return long
}

// P23.1, P23.3: labels as near as they must be, and just too far away, both ways. All sizes are multiples of 4, and so are the ways: 4094 and -4098 are none.
func TestEdges(t *testing.T) {
	for op := range opposites() {
		b := branch(op, 3, 4, "x")
		for _, c := range []struct {
			name string
			l    []api.Asm
			long bool
		}{
			{"to itself", []api.Asm{label("x"), b}, false},
			{"to the line behind it", []api.Asm{b, label("x")}, false},
			{"8 on", []api.Asm{b, pad(1), label("x")}, false},
			{"4 back", []api.Asm{label("x"), pad(1), b}, false},
			{"4088 on", []api.Asm{b, pad(1021), label("x")}, false},
			{"4092 on", []api.Asm{b, pad(1022), label("x")}, false},
			{"4096 on", []api.Asm{b, pad(1023), label("x")}, true},
			{"4100 on", []api.Asm{b, pad(1024), label("x")}, true},
			{"4092 back", []api.Asm{label("x"), pad(1023), b}, false},
			{"4096 back", []api.Asm{label("x"), pad(1024), b}, false},
			{"4100 back", []api.Asm{label("x"), pad(1025), b}, true},
			{"4104 back", []api.Asm{label("x"), pad(1026), b}, true},
			{"as far on as can be", []api.Asm{b, pad(16382), label("x")}, true},
			{"as far back as can be", []api.Asm{label("x"), pad(16382), b}, true},
		} {
			// Lines without a word change nothing, wherever they stand.
			for _, nothing := range [][]api.Asm{nil, {pad(0)}, {pad(-5), {Kind: api.AsPad}}} {
				l := slices.Concat([]api.Asm{label("first")}, nothing, c.l, nothing, []api.Asm{label("last")})
				taken(t, l)
				if long := longIn(l); len(long) != count(c.long) {
					t.Errorf("%s, %s: long are %v", op, c.name, long)
				}
			}
		}
	}
}

func count(is bool) int {
	if is {
		return 1
	}
	return 0
}

// P23.1, P23.3: what lies on the way is of any kind that has so many words.
func TestOnTheWay(t *testing.T) {
	for _, over := range []struct {
		name  string
		one   []api.Asm // of one word
		after []api.Asm
	}{
		{"instructions", []api.Asm{do(api.Insn{Op: "add", Rd: 1, Rs1: 2, Rs2: 3})}, nil},
		{"pads", []api.Asm{pad(1)}, nil},
		{"pads, and ones without words", []api.Asm{pad(-3), pad(1), pad(0)}, nil},
		{"jumps", []api.Asm{jump(1, "o")}, []api.Asm{label("o")}},
		{"branches", []api.Asm{beq("x")}, nil},
	} {
		for words := 1018; words < 1030; words++ {
			way := slices.Repeat(over.one, words)
			on := taken(t, slices.Concat([]api.Asm{beq("x")}, way, []api.Asm{label("x")}, over.after))
			if on.long[0] != (words >= 1023) {
				t.Errorf("%s: %d words on: %v", over.name, words, on.long[0])
			}
			l := slices.Concat(over.after, []api.Asm{label("x")}, way, []api.Asm{beq("x")})
			back := taken(t, l)
			if back.long[len(l)-1] != (words >= 1025) {
				t.Errorf("%s: %d words back: %v", over.name, words, back.long[len(l)-1])
			}
		}
	}
}

// P23.1: labels that stand at one place, at the first line and behind the last one.
func TestLabels(t *testing.T) {
	for _, l := range [][]api.Asm{
		{label("a"), label("b"), beq("a"), beq("b"), beq("c"), beq("d"), label("c"), label("d")},
		{label("a"), jump(1, "b"), label("b")},
		{jump(1, "b"), label("a"), jump(2, "a"), label("b")},
		{label("a"), pad(3000), jump(1, "a"), beq("a"), jump(2, "b"), beq("b"), pad(3000), label("b")},
		{label(""), beq(""), jump(1, "")},
		{beq(""), label("x"), label("")},
		{label("a"), label("A"), label(" a"), label("a "), label("á"), label("a\x00"), label("\xff"), beq("a"), beq("A"), beq(" a"), beq("a "), beq("á"), beq("a\x00"), beq("\xff")},
		{label("alone")},
		{label("a"), label("b"), pad(0), label("c")},
		{do(api.Insn{Op: "ebreak"}), label("x")},
	} {
		taken(t, l)
		back := slices.Clone(l)
		slices.Reverse(back)
		taken(t, back)
	}
}

// P23.3: branches that are too far for another one's growth alone, and those that would not be.
func TestGrowth(t *testing.T) {
	for _, c := range []struct {
		name   string
		l      []api.Asm
		long   []int
		rounds int
	}{
		{"both fit", []api.Asm{beq("a"), beq("b"), pad(1021), label("a"), pad(1), label("b")}, nil, 0},
		{"the inner one's growth", []api.Asm{beq("a"), beq("b"), pad(1021), label("a"), pad(2), label("b")}, []int{0, 1}, 2},
		{"room for the inner one's growth", []api.Asm{beq("a"), beq("b"), pad(1020), label("a"), pad(3), label("b")}, []int{1}, 1},
		{"the first one's growth is not on the second one's way", []api.Asm{beq("a"), beq("b"), pad(1022), label("b"), pad(5), label("a")}, []int{0}, 1},
		{"back, with room for another one's growth", []api.Asm{label("a"), beq("b"), pad(1022), beq("a"), label("b")}, []int{1}, 1},
		{"back, for another one's growth", []api.Asm{label("a"), beq("b"), pad(1023), beq("a"), label("b")}, []int{1, 3}, 2},
		{"one on, one back, each over the other: both fit", []api.Asm{label("a"), pad(512), beq("b"), pad(511), beq("a"), pad(510), label("b")}, nil, 0},
		{"each over the other: the one back does not fit", []api.Asm{label("a"), pad(513), beq("b"), pad(511), beq("a"), pad(510), label("b")}, []int{2, 4}, 2},
		{"each over the other: the one on does not fit", []api.Asm{label("a"), pad(512), beq("b"), pad(511), beq("a"), pad(511), label("b")}, []int{2, 4}, 2},
		{"neither fits", []api.Asm{label("a"), pad(513), beq("b"), pad(511), beq("a"), pad(511), label("b")}, []int{2, 4}, 1},
		{"a label behind the one that grows", []api.Asm{beq("a"), pad(1022), label("a"), beq("b"), pad(2000), label("b")}, []int{3}, 1},
		{"a label at a branch ahead of it", []api.Asm{beq("b"), pad(2000), label("b"), label("a"), pad(1024), beq("a")}, []int{0}, 1},
		{"many over one another", []api.Asm{beq("a"), beq("b"), beq("c"), beq("d"), pad(1017), label("a"), pad(2), label("b"), pad(2), label("c"), pad(2), label("d")}, []int{0, 1, 2, 3}, 4},
		{"jumps do not grow", []api.Asm{beq("a"), jump(1, "far"), pad(1021), label("a"), pad(9000), label("far")}, nil, 0},
		{"to itself, among ones that grow", []api.Asm{beq("far"), label("a"), beq("a"), beq("far"), pad(1100), label("far")}, []int{0, 3}, 1},
	} {
		p := taken(t, c.l)
		if long := longIn(c.l); !slices.Equal(long, c.long) || p.rounds != c.rounds {
			t.Errorf("%s: %v by %d rounds", c.name, long, p.rounds)
		}
	}
}

// P23.1: images of just as many bytes as there may be, and of a word more, by what is long too.
func TestImage(t *testing.T) {
	ecall := do(api.Insn{Op: "ecall"})
	for _, c := range []struct {
		name string
		l    []api.Asm
		size int
	}{
		{"pads", []api.Asm{pad(16384)}, 65536},
		{"pads of several lines", []api.Asm{pad(16000), pad(383), pad(1)}, 65536},
		{"pads, some below 0", []api.Asm{pad(-9), pad(16384), pad(math.MinInt)}, 65536},
		{"one pad more", []api.Asm{pad(16385)}, 65540},
		{"one pad more, and below 0", []api.Asm{pad(16385), pad(-1)}, 65540},
		{"instructions", slices.Repeat([]api.Asm{ecall}, 16384), 65536},
		{"one instruction more", slices.Repeat([]api.Asm{ecall}, 16385), 65540},
		{"jumps", append(slices.Repeat([]api.Asm{jump(1, "x")}, 16384), label("x")), 65536},
		{"one jump more", append(slices.Repeat([]api.Asm{jump(1, "x")}, 16385), label("x")), 65540},
		{"a jump over all", []api.Asm{jump(1, "x"), pad(16383), label("x")}, 65536},
		{"a jump over all, back", []api.Asm{label("x"), pad(16383), jump(1, "x")}, 65536},
		{"a short branch", []api.Asm{pad(16383), beq("x"), label("x")}, 65536},
		{"a long branch", []api.Asm{beq("x"), pad(16382), label("x")}, 65536},
		{"a long branch, back", []api.Asm{label("x"), pad(16382), beq("x")}, 65536},
		{"a long branch too many", []api.Asm{beq("x"), pad(16383), label("x")}, 65540},
		{"a long branch too many, back", []api.Asm{label("x"), pad(16383), beq("x")}, 65540},
		{"another one's growth", []api.Asm{beq("a"), beq("b"), pad(1021), label("a"), pad(2), label("b"), pad(15357)}, 65536},
		{"another one's growth too many", []api.Asm{beq("a"), beq("b"), pad(1021), label("a"), pad(2), label("b"), pad(15358)}, 65540},
		{"short branches", slices.Concat([]api.Asm{label("x"), beq("x")}, slices.Repeat([]api.Asm{beq("y")}, 1000), []api.Asm{label("y")}), 4004},
		{"many pads", []api.Asm{pad(1 << 20)}, 4 << 20},
		{"many pads of two lines", []api.Asm{pad(1 << 19), pad(1 << 19)}, 4 << 20},
		{"a jump that is too far for its word", []api.Asm{jump(1, "x"), pad(1 << 20), label("x")}, 4<<20 + 4},
		{"a branch that is too far for any word", []api.Asm{label("x"), pad(1 << 20), beq("x")}, 4<<20 + 8},
	} {
		if c.size > api.MaxCode {
			refused(t, c.l, api.ErrImage)
			byWords(t, c.l)
			continue
		}
		if p := taken(t, c.l); p.size != c.size {
			t.Errorf("%s: %d bytes", c.name, p.size)
		}
	}
}

// P23.1: more than 2^20 words of pads, in one line and in all of them together.
func TestPads(t *testing.T) {
	const most = 1 << 20
	for _, c := range []struct {
		n []int
		e api.Errno
	}{
		{[]int{most - 1}, api.ErrImage},
		{[]int{most}, api.ErrImage},
		{[]int{most + 1}, api.ErrForm},
		{[]int{1 << 32}, api.ErrForm},
		{[]int{1<<32 + 1}, api.ErrForm},
		{[]int{1 << 62}, api.ErrForm},
		{[]int{math.MaxInt}, api.ErrForm},
		{[]int{most, 1}, api.ErrForm},
		{[]int{1, most}, api.ErrForm},
		{[]int{most, 0}, api.ErrImage},
		{[]int{most, -1}, api.ErrImage},
		{[]int{most, -1, 1}, api.ErrForm},
		{[]int{-1, most + 1}, api.ErrForm},
		{[]int{-1, most, 1}, api.ErrForm},
		{[]int{math.MinInt, math.MinInt, most}, api.ErrImage},
		{[]int{math.MinInt, math.MinInt, most, 1}, api.ErrForm},
		{[]int{math.MinInt, math.MaxInt}, api.ErrForm},
		{[]int{math.MaxInt, math.MaxInt}, api.ErrForm},
		{[]int{math.MaxInt, math.MaxInt, 2}, api.ErrForm},
		{[]int{math.MaxInt, math.MaxInt, math.MinInt, math.MinInt}, api.ErrForm},
		{[]int{1 << 62, 1 << 62, 1 << 62, 1 << 62}, api.ErrForm},
		{[]int{most / 2, most / 2}, api.ErrImage},
		{[]int{most / 2, most/2 + 1}, api.ErrForm},
		{slices.Repeat([]int{1 << 10}, 1<<10), api.ErrImage},
		{append(slices.Repeat([]int{1 << 10}, 1<<10), 1), api.ErrForm},
		{[]int{16384, -1, math.MinInt, 0}, api.OK},
		{[]int{-1, -1, -1}, api.OK},
	} {
		var l []api.Asm
		for _, n := range c.n {
			l = append(l, pad(n))
		}
		for range min(len(l), 5) {
			refused(t, l, c.e)
			byWords(t, l)
			l = append(l[1:len(l):len(l)], l[0])
		}
	}
}

// P23.3: branches of which each one just fits, but for the next one's growth: if the last one does not fit, all are long in the end, one after the other.
func TestOneAfterTheOther(t *testing.T) {
	for _, many := range []int{1, 2, 3, 10, 500} {
		for _, back := range []bool{false, true} {
			l := dominoes(many, 1, back, true)
			if p, long := taken(t, l), longIn(l); len(long) != many || p.rounds != many {
				t.Errorf("%d, back %v: %d long by %d rounds", many, back, len(long), p.rounds)
			}
			l = dominoes(many, 1, back, false)
			if p, long := taken(t, l), longIn(l); len(long) != 0 || p.rounds != 0 {
				t.Errorf("%d that fit, back %v: %d long by %d rounds", many, back, len(long), p.rounds)
			}
		}
	}
}
