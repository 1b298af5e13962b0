package frame_test

import (
	"testing"

	"ferrule/api"
	"ferrule/asm"
	"ferrule/frame"
	"ferrule/low"
)

// P26.2: what is refused, and in which order; what is not.

func refused(t *testing.T, what string, want api.Errno, l []api.LowFunc) {
	t.Helper()
	for range 2 {
		if a, e := frame.Lines(l); e != want || a != nil {
			t.Fatalf("%s: %d lines, error %d, not %d", what, len(a), int(e), int(want))
		}
	}
}

func TestNoMain(t *testing.T) {
	good := starts(1, 0, li(0, 1), show(0))
	refused(t, "nothing", api.ErrForm, nil)
	refused(t, "no functions", api.ErrForm, []api.LowFunc{})
	for _, name := range []string{"", "f", "Main", "main ", " main", "mai", "mainn", "main\x00"} {
		refused(t, "named "+name, api.ErrForm, []api.LowFunc{named(good, name)})
		refused(t, "named "+name+", and others", api.ErrForm, []api.LowFunc{named(good, name), named(good, "other"), named(good, "f2")})
	}
	refused(t, "two of them", api.ErrForm, []api.LowFunc{good, good})
}

func TestMainThatPasses(t *testing.T) {
	f := named(starts(0, 0), "f")
	for k, main := range []api.LowFunc{
		fn("main", 1, regs(0), 0, 0, block(answer())),
		fn("main", 8, regs(0, 1, 2, 3, 4, 5, 6, 7), 0, 0, block(answer())),
		fn("main", 1, nil, 1, 0, block(answer(0))),
		fn("main", 0, nil, 1, 0, block(fail())),
		fn("main", 0, nil, 1, 0, block(jump(0))),
		fn("main", 2, regs(1), 2, 0, block(answer(0, 1))),
	} {
		if low.Check([]api.LowFunc{main}) != api.OK {
			t.Fatal(k)
		}
		refused(t, "main alone", api.ErrForm, []api.LowFunc{main})
		refused(t, "main first", api.ErrForm, []api.LowFunc{main, f})
		refused(t, "main last", api.ErrForm, []api.LowFunc{f, main})
	}
	noParams := starts(0, 0)
	noParams.Params = []int{}
	comes(t, "a list of no params", exit(), noParams)
	comes(t, "others pass and answer", exit(3), starts(1, 0, li(0, 3), calls(regs(0), "f", 0), show(0)), fn("f", 1, regs(0), 1, 0, block(answer(0))))
}

// unfit are functions that low.Check refuses, beside a main that is good.
func unfit() map[string]api.LowFunc {
	good := block(answer())
	one := func(in api.Low) api.LowFunc { return fn("f", 2, nil, 0, 1, block(answer(), in)) }
	ends := func(end api.LowTerm) api.LowFunc { return fn("f", 2, nil, 0, 0, block(end)) }
	return map[string]api.LowFunc{
		"no block":               fn("f", 1, nil, 0, 0),
		"registers below 0":      fn("f", -1, nil, 0, 0, good),
		"too many registers":     fn("f", 1<<16+1, nil, 0, 0, good),
		"a frame below 0":        fn("f", 1, nil, 0, -1, good),
		"too great a frame":      fn("f", 1, nil, 0, 1<<16+1, good),
		"answers below 0":        fn("f", 1, nil, -1, 0, good),
		"too many answers":       fn("f", 1, nil, 9, 0, block(answer(0, 0, 0, 0, 0, 0, 0, 0, 0))),
		"too many params":        fn("f", 1, regs(0, 0, 0, 0, 0, 0, 0, 0, 0), 0, 0, good),
		"a param that is none":   fn("f", 1, regs(1), 0, 0, good),
		"a param that is 0":      fn("f", 1, regs(zero), 0, 0, good),
		"another operation":      one(api.Low{}),
		"and another one":        one(api.Low{Op: api.LoFree + 1}),
		"sets what is none":      one(li(2, 1)),
		"sets 0":                 one(li(zero, 1)),
		"sets the frame":         one(mv(within, 1)),
		"reads what is none":     one(show(2)),
		"reads the frame":        one(show(within)),
		"moves the frame":        one(mv(0, within)),
		"adds the frame":         one(bin(0, within, "add", 1)),
		"stores the frame":       one(sw(within, 0, within)),
		"no such operation":      one(bin(0, 1, "nor", 1)),
		"no operation":           one(bin(0, 1, "", 1)),
		"none with a number":     one(imm(0, 1, "sub", 1)),
		"none with a number, i":  one(imm(0, 1, "addi", 1)),
		"a number too great":     one(imm(0, 1, "add", 2048)),
		"a number too small":     one(imm(0, 1, "xor", -2049)),
		"too many bits":          one(imm(0, 1, "sll", 32)),
		"bits below 0":           one(imm(0, 1, "sra", -1)),
		"a load too far":         one(lw(0, within, 2048)),
		"a store too far":        one(sw(within, -2052, 0)),
		"calls what is none":     one(calls(nil, "g")),
		"passes too many":        one(calls(nil, "main", 0)),
		"takes too many":         one(calls(regs(0), "main")),
		"blocks below 0":         one(alloc(0, -1)),
		"blocks too great":       one(alloc(0, api.MaxWords+1)),
		"no end":                 ends(api.LowTerm{}),
		"another end":            ends(api.LowTerm{Kind: 99}),
		"goes nowhere":           ends(jump(1)),
		"goes below 0":           ends(jump(-1)),
		"goes nowhere, if":       ends(branch(0, "eq", 0, 1, 0)),
		"goes nowhere, else":     ends(branch(0, "eq", 0, 0, 1)),
		"asks nothing":           ends(branch(0, "", 0, 0, 0)),
		"asks what is none":      ends(branch(0, "gt", 0, 0, 0)),
		"answers too many":       ends(answer(0)),
		"main, once more":        starts(0, 0),
		"main that passes, more": fn("main", 1, regs(0), 0, 0, good),
	}
}

func TestUnfit(t *testing.T) {
	main, tooBig := starts(0, 0), named(starts(0, 500), "big")
	for what, f := range unfit() {
		if low.Check([]api.LowFunc{main, f}) == api.OK {
			t.Fatal(what, ": low.Check refuses nothing")
		}
		refused(t, what, api.ErrForm, []api.LowFunc{main, f})
		refused(t, what, api.ErrForm, []api.LowFunc{f, main})
		refused(t, what+", without main", api.ErrForm, []api.LowFunc{named(f, "f")})
		// low.Check is what is asked first.
		refused(t, what+", and one too big", api.ErrForm, []api.LowFunc{tooBig, main, f})
		refused(t, what+", and one too big behind", api.ErrForm, []api.LowFunc{f, main, tooBig})
	}
}

// Of several faults the first one counts: the form ahead of sizes, a main that is not right ahead of sizes.
func TestSeveralFaults(t *testing.T) {
	main, good := starts(0, 0), named(starts(0, 499), "good")
	big, bigger := named(starts(0, 500), "big"), together(5000, true, 60000)
	for _, l := range [][]api.LowFunc{{big, main}, {main, big}, {good, main, big, bigger}, {bigger, big, good, main}, {main, bigger, named(bigger, "f2"), big}} {
		refused(t, "too big", api.ErrFrame, l)
	}
	for _, l := range [][]api.LowFunc{
		{big}, {big, bigger}, {big, fn("main", 1, regs(0), 0, 0, block(answer()))}, {fn("main", 1, nil, 1, 600, block(answer(0)))}, {big, big, main}, {bigger, fn("none", 0, nil, 0, 0), main},
	} {
		refused(t, "too big, and not of the form", api.ErrForm, l)
	}
	refused(t, "main is too big", api.ErrFrame, []api.LowFunc{starts(0, 500)})
	comes(t, "as big as may be", exit(), starts(0, 499), good)
}

// Lines are such that asm takes them: labels that are each one line's, and jumps to them alone.
func TestLinesAreFormed(t *testing.T) {
	l := append(passing(regs(0, 1), regs(2, 3), regs(3), regs(5)), down("d"), quiet(down("e")), far(3))
	l[len(l)-1].Name = "far"
	for range 3 {
		a, e := frame.Lines(l)
		if e != api.OK || len(a) == 0 {
			t.Fatal(len(a), int(e))
		}
		labels := map[string]int{}
		for _, x := range a {
			if x.Kind == api.AsLabel {
				labels[x.Label]++
			}
		}
		for _, x := range a {
			goes := x.Kind == api.AsJump || x.Kind == api.AsBranch
			if goes && labels[x.Label] != 1 || !goes && x.Kind != api.AsLabel && x.Kind != api.AsInsn {
				t.Fatal(x)
			}
		}
		if _, e := asm.Assemble(a); e != api.OK {
			t.Fatal(int(e))
		}
	}
}
