package frame_test

import (
	"slices"
	"testing"

	"ferrule/api"
	"ferrule/frame"
	"ferrule/regalloc"
)

// P26.1: how many bytes of the stack a call takes.

// sized asks for a size, and for that of regalloc's own numbers.
func sized(t *testing.T, what string, f api.LowFunc, want int) {
	t.Helper()
	got, e := frame.Size(f)
	if e != api.OK || got != want {
		t.Fatalf("%s: %d, error %d, not %d", what, got, int(e), want)
	}
	at, slots, e := regalloc.Assign(f)
	kept := 0
	for _, reg := range regalloc.Kept() {
		if slices.Contains(at, reg) {
			kept++
		}
	}
	if sum := 4 * (f.Frame + slots + kept + 1); e != api.OK || sum != want {
		t.Fatalf("%s: %d words of the frame, %d slots, %d kept registers, so %d", what, f.Frame, slots, kept, sum)
	}
}

func notSized(t *testing.T, what string, f api.LowFunc, want api.Errno) {
	t.Helper()
	if got, e := frame.Size(f); e != want || got != 0 {
		t.Fatalf("%s: %d, error %d, not %d", what, got, int(e), int(want))
	}
	main := starts(0, 0)
	for _, l := range [][]api.LowFunc{{main, named(f, "f")}, {named(f, "f"), main}} {
		if a, e := frame.Lines(l); e != want || a != nil {
			t.Fatalf("%s: %d lines, error %d, not %d", what, len(a), int(e), int(want))
		}
	}
}

func named(f api.LowFunc, name string) api.LowFunc {
	f.Name = name
	return f
}

// together is a function with so many registers that are all needed at one time, over a call if one is asked for.
func together(many int, over bool, words int) api.LowFunc {
	var list []api.Low
	for k := range many {
		list = append(list, li(k, k+1))
	}
	if over {
		list = append(list, calls(nil, "f"))
	}
	for k := range many {
		list = append(list, show(k))
	}
	return fn("f", many, nil, 0, words, block(answer(), list...))
}

// keptBy is a function that uses so many kept registers, and no slot.
func keptBy(many, words int) api.LowFunc { return together(many, true, words) }

func TestSizeOfAFew(t *testing.T) {
	sized(t, "nothing", starts(0, 0), 4)
	sized(t, "registers that nothing uses", starts(9, 0), 4)
	sized(t, "one that is lost by calls", starts(1, 0, li(0, 1), show(0)), 4)
	sized(t, "one word", starts(0, 1), 8)
	sized(t, "it calls", starts(0, 0, calls(nil, "f")), 4)
	sized(t, "one over a call", keptBy(1, 0), 8)
	sized(t, "one over a call, and words", keptBy(1, 5), 28)
	sized(t, "all kept", keptBy(11, 0), 48)
	sized(t, "one slot", together(12, true, 0), 52)
	sized(t, "all registers", together(15, false, 0), 48)
	sized(t, "all registers and a slot", together(16, false, 0), 52)
	sized(t, "quiet", quiet(keptBy(3, 2)), 24)
	sized(t, "calls of what is nowhere", fn("f", 1, nil, 0, 0, block(answer(), calls(regs(0), "nobody", 0))), 4)
}

func TestSizeOfMany(t *testing.T) {
	for many := range 60 {
		slots := max(0, many-11)
		sized(t, "over a call", together(many, true, many/3), 4*(many/3+slots+min(many, 11)+1))
		slots = max(0, many-15)
		at, _, _ := regalloc.Assign(together(many, false, 0))
		kept := 0
		for _, reg := range at {
			if slices.Contains(regalloc.Kept(), reg) {
				kept++
			}
		}
		sized(t, "without a call", together(many, false, many/2), 4*(many/2+slots+kept+1))
	}
}

// A frame of MaxFrame bytes has 500 words: of each kind alone as many as can be, and of all together.
func TestMaxFrame(t *testing.T) {
	const words = api.MaxFrame / 4
	for _, x := range []struct {
		what string
		f    api.LowFunc
		more api.LowFunc
	}{
		{"words of Frame", starts(0, words-1), starts(0, words)},
		{"words of Frame, and a call", starts(0, words-1, calls(nil, "f")), starts(0, words, calls(nil, "f"))},
		{"slots, over a call", together(words-1, true, 0), together(words, true, 0)},
		{"slots, without a call", together(words-1+4, false, 0), together(words+4, false, 0)},
		{"kept registers and words", keptBy(11, words-12), keptBy(11, words-11)},
		{"one kept register more", keptBy(3, words-4), keptBy(4, words-4)},
		{"all", together(200, true, words-201), together(201, true, words-201)},
		{"all, a word more", together(200, true, words-201), together(200, true, words-200)},
	} {
		sized(t, x.what, x.f, api.MaxFrame)
		notSized(t, x.what+", one more", x.more, api.ErrFrame)
	}
	notSized(t, "as many words as can be", starts(0, 1<<16), api.ErrFrame)
	notSized(t, "as many registers", together(2000, false, 0), api.ErrFrame)
}

// Size tells regalloc's error first.
func TestSizeRefuses(t *testing.T) {
	good := block(answer())
	for _, x := range []struct {
		what string
		f    api.LowFunc
	}{
		{"nothing", api.LowFunc{}},
		{"no block", fn("f", 3, nil, 0, 0)},
		{"no block, and too many words", fn("f", 3, nil, 0, 5000)},
		{"a register that is none", fn("f", 3, nil, 0, 0, block(answer(), li(3, 1)))},
		{"a register that is none, and too many words", fn("f", 3, nil, 0, 5000, block(answer(), li(3, 1)))},
		{"a block that is none", fn("f", 0, nil, 0, 0, block(jump(1)))},
		{"registers below 0", fn("f", -1, nil, 0, 0, good)},
		{"a frame below 0", fn("f", 0, nil, 0, -1, good)},
		{"a frame far below 0", fn("f", 0, nil, 0, -1<<63, good)},
		{"a frame far too big", fn("f", 0, nil, 0, 1<<62, good)},
		{"another frame far too big", fn("f", 0, nil, 0, 1<<63-1, good)},
		{"far too many registers", fn("f", 1<<62, nil, 0, 0, good)},
		{"a param that is none", fn("f", 1, regs(1), 0, 0, good)},
	} {
		if _, _, e := regalloc.Assign(x.f); e != api.ErrForm {
			t.Fatalf("%s: regalloc tells %d", x.what, int(e))
		}
		notSized(t, x.what, x.f, api.ErrForm)
	}
}
