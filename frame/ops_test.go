package frame_test

import (
	"fmt"
	"testing"

	"ferrule/api"
	"ferrule/low"
)

// P26.3: each operation of the low form, with what it reads and sets in registers and in slots.

// edges are words at whose sides operations do other things.
func edges() []int {
	return []int{0, 1, -1, 2, 3, 31, 32, 33, -31, 100, 2047, 2048, -2048, -2049, 4095, 4096, -4096, 65536, 1<<31 - 1, -1 << 31, 1<<31 - 2048, 1<<31 - 2049, -1<<31 + 2047, 0x12345678, -0x12345678}
}

// orders are all orders of some numbers.
func orders(list []int) [][]int {
	if len(list) == 0 {
		return [][]int{nil}
	}
	var out [][]int
	for k, x := range list {
		rest := append(append([]int{}, list[:k]...), list[k+1:]...)
		for _, o := range orders(rest) {
			out = append(out, append([]int{x}, o...))
		}
	}
	return out
}

// everyPlace holds a main that does something with the registers 0, 1, 2, which lie in all ways in registers and in slots.
func everyPlace(t *testing.T, what string, set [3]int, list ...api.Low) {
	t.Helper()
	met := map[string]bool{}
	begin := []api.Low{li(0, set[0]), li(1, set[1]), li(2, set[2])}
	main := starts(3, 2, append(append(begin, list...), show(0), show(1), show(2))...)
	for turn := range 3 {
		for _, many := range regs(13, 14, 15, 16) {
			f := crowd{many, true, turn}.of(main)
			met[inSlots(t, f, many, many+1, many+2)] = true
			hold(t, what, f)
		}
	}
	if len(met) != 8 {
		t.Fatalf("%s: only %v", what, met)
	}
}

func binaries() []string {
	return []string{"add", "sub", "mul", "mulh", "mulhu", "div", "divu", "rem", "remu", "and", "or", "xor", "sll", "srl", "sra", "slt", "sltu"}
}

func immediates() []string {
	return []string{"add", "and", "or", "xor", "slt", "sltu", "sll", "srl", "sra"}
}

// isShift tells whether an instruction's number is told in bits.
func isShift(op string) bool { return op == "sll" || op == "srl" || op == "sra" }

// showAll prints the three registers.
func showAll() []api.Low { return []api.Low{show(0), show(1), show(2)} }

func TestEachBinary(t *testing.T) {
	t.Parallel()
	for _, op := range binaries() {
		var list []api.Low
		for _, who := range orders(regs(0, 1, 2)) {
			list = append(append(list, bin(who[0], who[1], op, who[2])), showAll()...)
			list = append(list, imm(who[1], who[1], "add", 77), imm(who[0], who[0], "xor", -5))
		}
		for _, in := range []api.Low{
			bin(0, 1, op, 1), bin(2, 2, op, 2), bin(0, 0, op, 1), bin(1, 2, op, 1), bin(0, zero, op, 1), bin(1, 2, op, zero), bin(2, zero, op, zero),
		} {
			list = append(append(list, in), showAll()...)
		}
		everyPlace(t, op, [3]int{7, -100, 9}, list...)
	}
}

// Each operation, of all words at the edges.
func TestBinariesOfAllEdges(t *testing.T) {
	t.Parallel()
	for _, op := range binaries() {
		var list []api.Low
		for _, a := range edges() {
			for _, b := range edges() {
				list = append(list, li(0, a), li(1, b), bin(2, 0, op, 1), show(2))
			}
		}
		for _, many := range regs(0, 15) {
			hold(t, op, crowd{many, true, 0}.of(starts(3, 0, list...)))
		}
	}
}

// numbersOf are those that an instruction may have in itself.
func numbersOf(op string) []int {
	if isShift(op) {
		return []int{0, 1, 2, 15, 16, 30, 31}
	}
	return []int{0, 1, -1, 2, 31, 32, 255, -256, 2046, 2047, -2047, -2048}
}

func TestEachImmediate(t *testing.T) {
	t.Parallel()
	for _, op := range immediates() {
		var list []api.Low
		for _, n := range numbersOf(op) {
			list = append(list, imm(0, 1, op, n), imm(2, 2, op, n), imm(1, 0, op, n))
			list = append(append(list, showAll()...), imm(1, zero, op, n), show(1), li(2, 1<<20-n), li(1, -n-100))
		}
		everyPlace(t, op, [3]int{7, -100, 1 << 20}, list...)
		list = nil
		for _, n := range numbersOf(op) {
			for _, a := range edges() {
				list = append(list, li(0, a), imm(1, 0, op, n), show(1))
			}
		}
		hold(t, op+" of many", starts(2, 0, list...))
	}
}

// TestNumbers: each number that a word may be, and those beyond.
func TestNumbers(t *testing.T) {
	var list []int
	list = append(list, edges()...)
	for bit := range 63 {
		for _, n := range []int{1 << bit, 1<<bit - 1, 1<<bit + 1} {
			list = append(list, n, -n)
		}
	}
	for _, n := range []int{1<<63 - 1, -1 << 63, 1<<32 + 5, -1<<32 - 2048, 0xFFFFF800, 0xFFFFF7FF, 0x80000000, 0x7FFFF800, 0x7FFFFFFF, 0xFFFFFFFF} {
		list = append(list, n)
	}
	var all []api.Low
	for _, n := range list {
		all = append(all, li(1, n), show(1), showFrom0(1))
	}
	for _, n := range append(edges(), 1<<32+5, -1<<32-2048, 0xFFFFF800, 0xFFFFF7FF) {
		everyPlace(t, fmt.Sprint("the number ", n), [3]int{n, 5, n}, li(1, n))
	}
	for _, many := range regs(0, 15) {
		hold(t, "numbers", crowd{many, true, 0}.of(starts(2, 0, all...)))
	}
}

func TestMoves(t *testing.T) {
	for _, who := range orders(regs(0, 1, 2)) {
		everyPlace(t, "move", [3]int{1, 2, 3}, mv(who[0], who[1]), mv(who[1], who[2]), mv(who[2], who[0]))
	}
	everyPlace(t, "move to itself", [3]int{1, 2, 3}, mv(0, 0), mv(1, 1), mv(2, 2))
	everyPlace(t, "move of 0", [3]int{1, 2, 3}, mv(0, zero), mv(2, zero))
}

// TestPrints: a word with a sign, and from 0 on; all but 1 are with a sign.
func TestPrints(t *testing.T) {
	for _, n := range edges() {
		everyPlace(t, "print", [3]int{n, -n, 3}, show(0), showFrom0(0), show(1), showFrom0(1))
	}
	var list []api.Low
	for _, kind := range []int{0, 1, 2, -1, 17, 1 << 32, 1<<32 + 1} {
		list = append(list, li(0, -7), api.Low{Op: api.LoPrint, A: 0, N: kind}, api.Low{Op: api.LoPrint, A: zero, N: kind})
	}
	comes(t, "kinds of prints", exit(-7, 0, 1<<32-7, 0, -7, 0, -7, 0, -7, 0, -7, 0, -7, 0), starts(1, 0, list...))
}

// TestReads: the input's words, and 0 when it is used up.
func TestReads(t *testing.T) {
	main := starts(3, 0, read(0), show(0), read(1), bin(2, 0, "add", 1), show(2), read(0), show(0), showFrom0(0), read(0), show(0), read(2), show(1), show(2))
	for _, input := range [][]int{nil, {5}, {-1, 1 << 32, -1 << 31}, {1<<31 + 1, 3, 1<<63 - 1, 7, 8, 9}} {
		holdCrowded(t, "reads", input, main)
	}
}

// TestMemory: loads and stores in the frame, at its first word and at its last one, with the frame's address in the instruction and in a register.
func TestMemoryOfFrame(t *testing.T) {
	for _, words := range []int{1, 2, 3, 32, 33, 100, 400} {
		last := 4 * (words - 1)
		list := []api.Low{li(0, 11), li(1, 22), sw(within, last, 1), sw(within, 0, 0), lw(0, within, last), lw(2, within, 0), show(0), show(2), imm(1, within, "add", 0), lw(0, 1, last), sw(1, 0, 0), lw(2, within, 0), show(2)}
		if words > 2 {
			list = append(list, imm(1, within, "add", last), lw(0, 1, -last), lw(2, 1, 0), li(2, 5), sw(1, -4, 2), lw(2, within, last-4), show(0), show(2))
		}
		holdCrowded(t, fmt.Sprint(words, " words"), nil, starts(3, words, list...))
	}
}

// Each word of a frame is one of its own, and no slot's or kept register's.
func TestEachWordOfFrame(t *testing.T) {
	const words = 60
	var list []api.Low
	for k := range words {
		list = append(list, li(0, 100+k), sw(within, 4*k, 0))
	}
	list = append(list, calls(nil, "f"))
	for k := range words {
		list = append(list, lw(0, within, 4*k), show(0))
	}
	f := fn("f", 1, nil, 0, words, block(answer(), list[:2*words]...))
	holdCrowded(t, "each word", nil, starts(1, words, list...), f)
}

// Loads and stores by addresses that are passed, and that lie in slots.
func TestMemoryOfOthers(t *testing.T) {
	main := starts(3, 6, imm(0, within, "add", 8), li(1, 3), sw(0, 0, 1), calls(regs(1), "f", 0, 1), show(1), lw(1, within, 8), show(1), lw(2, within, 12), show(2), lw(2, within, 4), show(2))
	f := fn("f", 5, regs(3, 4), 1, 6, block(answer(2), lw(0, 3, 0), bin(2, 0, "add", 4), sw(3, 4, 2), sw(3, -4, 0), sw(within, 0, 2), lw(2, within, 0), imm(1, 3, "add", 4), lw(0, 1, 0), sw(1, -4, 0)))
	holdCrowded(t, "words of another frame", nil, main, f)
	holdCrowded(t, "a register that is its own address", nil, starts(1, 2, imm(0, within, "add", 4), sw(0, 0, zero), lw(0, 0, 0), show(0), sw(zero-1, 0, 0)))
}

func TestHeap(t *testing.T) {
	main := starts(4, 0, alloc(0, 4), alloc(1, 128), alloc(2, 0), li(3, 6), sw(0, 12, 3), sw(1, 508, 3), sw(1, 0, 0), lw(3, 1, 0), lw(3, 3, 12), show(3), lw(3, 0, 4), show(3), free(1), alloc(1, 65), lw(3, 1, 508), show(3), free(2), free(0), alloc(3, 1), sw(3, 0, 3), free(1), free(3))
	holdCrowded(t, "blocks", nil, main)
	everyPlace(t, "blocks in all places", [3]int{1, 2, 3}, alloc(0, 3), alloc(1, 17), sw(0, 0, 1), sw(1, 4, 2), sw(1, 0, 0), lw(2, 1, 4), lw(1, 1, 0), lw(1, 1, 0), lw(1, 1, 4), free(0))
	for _, words := range []int{0, 1, 4, 5, 16, 17, 64, 65, 127, 128} {
		one := block(jump(0), alloc(0, words), sw(0, 0, 1), lw(1, 0, 0), imm(1, 1, "add", 1), show(1))
		want := hold(t, "the heap is full", fn("main", 2, nil, 0, 0, one))
		if want.Kind != api.OutMemory || len(want.Print) < 8 {
			t.Fatal(words, told(want))
		}
		holdCrowded(t, "the heap is full", nil, fn("main", 2, nil, 0, 0, one))
	}
}

// A Free that is refused is OutTrap on both sides.
func TestFreeRefused(t *testing.T) {
	for k, list := range [][]api.Low{
		{free(0)}, {li(0, 8), free(0)}, {alloc(0, 4), imm(0, 0, "add", 4), free(0)}, {alloc(0, 4), free(0), free(0)}, {alloc(0, 4), free(zero)}, {alloc(0, 2), alloc(1, 2), free(0), show(zero), free(0)}, {imm(0, within, "add", 0), free(0)},
	} {
		for _, many := range regs(0, 15) {
			l := []api.LowFunc{crowd{many, true, 0}.of(starts(2, 1, append(list, show(0))...))}
			want, n := low.Run(l, nil, plenty)
			got, _ := begin(t, "free", nil, l).Run(30*n + 100)
			if want.Kind != api.OutTrap || !alike(got, want) {
				t.Fatal(k, told(got), told(want))
			}
		}
	}
}
