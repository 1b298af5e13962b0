package fold_test

import (
	"fmt"
	"reflect"
	"slices"
	"testing"

	"ferrule/api"
	"ferrule/mir"
)

// P15.1 and P15.2, told apart from fold, by plain means.

func operandsOf(in api.Instr) []api.Operand {
	switch in.Op {
	case api.OpSet, api.OpStore, api.OpFree, api.OpPrint:
		return []api.Operand{in.A}
	case api.OpBin:
		return []api.Operand{in.A, in.B}
	case api.OpCall:
		return in.Args
	}
	return nil
}

func operandsOfEnd(t api.Term) []api.Operand {
	switch t.Kind {
	case api.TeIf:
		return []api.Operand{t.A}
	case api.TeReturn:
		return t.Args
	}
	return nil
}

func placesOf(in api.Instr) []api.Place {
	switch in.Op {
	case api.OpLoad, api.OpStore, api.OpAddr, api.OpDrop:
		return []api.Place{in.P}
	case api.OpCopy:
		return []api.Place{in.P, in.Q}
	}
	return nil
}

func setsOf(in api.Instr) []int {
	switch in.Op {
	case api.OpSet, api.OpBin, api.OpLoad, api.OpAddr, api.OpAlloc, api.OpRead:
		return []int{in.Dst}
	case api.OpCall:
		return in.Dsts
	}
	return nil
}

func goalsOf(t api.Term) []int {
	switch t.Kind {
	case api.TeGoto:
		return []int{t.To}
	case api.TeIf:
		return []int{t.To, t.Else}
	}
	return nil
}

// plainly tells P15.1.
func plainly(f api.Mir) []bool {
	out := make([]bool, len(f.Locals))
	for local := range out {
		out[local] = f.Locals[local] == 1
		for _, b := range f.Blocks {
			for _, in := range b.List {
				for _, p := range placesOf(in) {
					if p.Local == local && (len(p.Steps) == 0 || p.Steps[0].Kind != api.StHeld) {
						out[local] = false
					}
				}
			}
		}
	}
	return out
}

// usedLocals tells the locals that instructions and ends use; that one holds a value or none is no use of its word, that it is let go is.
func usedLocals(f api.Mir) map[int]bool {
	out := map[int]bool{}
	for _, b := range f.Blocks {
		all := operandsOfEnd(b.Term)
		for _, in := range b.List {
			all = append(all[:len(all):len(all)], operandsOf(in)...)
			for _, p := range placesOf(in) {
				out[p.Local] = true
				for _, s := range p.Steps {
					if s.Kind == api.StIndex {
						out[s.N] = true
					}
				}
			}
			if in.Op == api.OpClear {
				out[in.Dst] = true
			}
		}
		for _, o := range all {
			if !o.Const {
				out[o.N] = true
			}
		}
	}
	return out
}

// faults tells what is wrong with functions that are told of others.
func faults(l, out []api.Mir) []string {
	if mir.Check(out) != api.OK {
		return []string{"mir refuses what was told"}
	}
	if len(out) != len(l) {
		return []string{"another number of functions"}
	}
	var all []string
	for k, f := range out {
		g := l[k]
		if f.Name != g.Name || f.Params != g.Params || f.Answers != g.Answers || f.Quiet != g.Quiet || len(f.Locals) < f.Params || !slices.Equal(f.Locals[:f.Params], g.Locals[:g.Params]) {
			all = append(all, fmt.Sprintf("%s: another function: %s, %v, %d params, %d answers, quiet %t", g.Name, f.Name, f.Locals, f.Params, f.Answers, f.Quiet))
		}
		for _, fault := range slices.Concat(blockFaults(f), instrFaults(f), knownFaults(f), bareFaults(f)) {
			all = append(all, f.Name+": "+fault)
		}
	}
	return all
}

// blockFaults are those of blocks and their ends.
func blockFaults(f api.Mir) []string {
	var all []string
	fault := func(format string, args ...any) { all = append(all, fmt.Sprintf(format, args...)) }
	reached := map[int]bool{0: true}
	for range f.Blocks {
		for k, b := range f.Blocks {
			for _, to := range goalsOf(b.Term) {
				reached[to] = reached[to] || reached[k]
			}
		}
		if len(reached) == len(f.Blocks) && !slices.Contains(values(reached), false) {
			break
		}
	}
	for k, b := range f.Blocks {
		if !reached[k] {
			fault("block %d can't be come to", k)
		}
		if k > 0 && len(b.List) == 0 && b.Term.Kind == api.TeGoto && b.Term.To != k {
			fault("block %d does nothing", k)
		}
		if b.Term.Kind == api.TeIf && (b.Term.A.Const || b.Term.To == b.Term.Else) {
			fault("block %d asks for nothing", k)
		}
		if b.Term.Kind == api.TeGoto && b.Term.To != k && b.Term.To != 0 {
			others := 0
			for other, c := range f.Blocks {
				if other != k && slices.Contains(goalsOf(c.Term), b.Term.To) {
					others++
				}
			}
			if others == 0 {
				fault("nothing but block %d goes to %d", k, b.Term.To)
			}
		}
	}
	return all
}

func values(m map[int]bool) []bool {
	var all []bool
	for _, v := range m {
		all = append(all, v)
	}
	return all
}

// instrFaults are OpBins of numbers, and words that nobody uses.
func instrFaults(f api.Mir) []string {
	var all []string
	plain, used := plainly(f), usedLocals(f)
	for k, b := range f.Blocks {
		for _, in := range b.List {
			if in.Op == api.OpBin && in.A.Const && in.B.Const {
				all = append(all, fmt.Sprintf("block %d: %s is known", k, toldInstr(in)))
			}
			if (in.Op == api.OpSet || in.Op == api.OpBin || in.Op == api.OpAddr) && plain[in.Dst] && !used[in.Dst] {
				all = append(all, fmt.Sprintf("block %d: nobody uses %s", k, toldInstr(in)))
			}
		}
	}
	return all
}

// knownFaults are operands whose words an OpSet ahead of them says.
func knownFaults(f api.Mir) []string {
	var all []string
	plain := plainly(f)
	for k, b := range f.Blocks {
		for from, in := range b.List {
			if in.Op != api.OpSet || !in.A.Const || !plain[in.Dst] {
				continue
			}
			again := false
			for _, next := range b.List[from+1:] {
				if slices.Contains(operandsOf(next), v(in.Dst)) {
					all = append(all, fmt.Sprintf("block %d: %s, %s", k, toldInstr(in), toldInstr(next)))
				}
				if again = slices.Contains(setsOf(next), in.Dst); again {
					break
				}
			}
			if !again && slices.Contains(operandsOfEnd(b.Term), v(in.Dst)) {
				all = append(all, fmt.Sprintf("block %d: %s, %s", k, toldInstr(in), toldEnd(b.Term)))
			}
		}
	}
	return all
}

// bare is an instruction with what its operation uses alone.
func bare(in api.Instr) api.Instr {
	out := api.Instr{Op: in.Op}
	if len(setsOf(in)) > 0 && in.Op != api.OpCall || in.Op >= api.OpGive && in.Op <= api.OpClear {
		out.Dst = in.Dst
	}
	switch list := operandsOf(in); {
	case in.Op == api.OpCall:
		out.Text, out.Args, out.Dsts = in.Text, in.Args, in.Dsts
	case in.Op == api.OpBin:
		out.Text, out.A, out.B = in.Text, in.A, in.B
	case len(list) == 1:
		out.A = in.A
	}
	switch list := placesOf(in); len(list) {
	case 2:
		out.Q = barePlace(in.Q)
		fallthrough
	case 1:
		out.P = barePlace(in.P)
	}
	switch in.Op {
	case api.OpCopy, api.OpAlloc, api.OpPrint:
		out.N = in.N
	case api.OpDrop, api.OpClear:
		out.Type = in.Type
	}
	return out
}

func barePlace(p api.Place) api.Place {
	out := api.Place{Local: p.Local}
	if p.Steps != nil {
		out.Steps = []api.Step{}
	}
	for _, s := range p.Steps {
		out.Steps = append(out.Steps, map[int]api.Step{api.StAdd: {Kind: api.StAdd, N: s.N}, api.StIndex: s, api.StHeld: {Kind: api.StHeld}}[s.Kind])
	}
	return out
}

func bareEnd(t api.Term) api.Term {
	switch t.Kind {
	case api.TeGoto:
		return api.Term{Kind: t.Kind, To: t.To}
	case api.TeIf:
		return api.Term{Kind: t.Kind, A: t.A, To: t.To, Else: t.Else}
	case api.TeReturn:
		return api.Term{Kind: t.Kind, Args: t.Args}
	}
	return api.Term{Kind: t.Kind}
}

// bareFaults are fields that no operation uses and that are not zero (rule 2).
func bareFaults(f api.Mir) []string {
	var all []string
	for k, b := range f.Blocks {
		for _, in := range b.List {
			if !reflect.DeepEqual(in, bare(in)) {
				all = append(all, fmt.Sprintf("block %d: %+v", k, in))
			}
		}
		if !reflect.DeepEqual(b.Term, bareEnd(b.Term)) {
			all = append(all, fmt.Sprintf("block %d: %+v", k, b.Term))
		}
	}
	return all
}

// Each sentence of P15.2 is seen where it is broken.
func TestFaultsAreSeen(t *testing.T) {
	ask := block(branch(v(0), 1, 2), read(0))
	ends := block(answer())
	odd := show(n(1))
	odd.Dst = 1
	for what, f := range map[string]api.Mir{
		"a block that nothing comes to":    fn("main", nil, 0, 0, ends, ends),
		"a circle that nothing comes to":   fn("main", nil, 0, 0, ends, block(jump(2), show(n(1))), block(jump(1), show(n(1)))),
		"a block that does nothing":        fn("main", []int{1}, 0, 0, ask, block(jump(2)), ends),
		"blocks that do nothing":           fn("main", []int{1}, 0, 0, ask, block(jump(2)), block(jump(1))),
		"a TeIf of a number":               fn("main", nil, 0, 0, block(branch(n(1), 1, 2)), ends, block(fail())),
		"a TeIf to one block":              fn("main", []int{1}, 0, 0, block(branch(v(0), 1, 1), read(0)), ends),
		"an OpBin of numbers":              fn("main", []int{1}, 0, 0, block(answer(), bin(0, n(1), "add", n(2)), show(v(0)))),
		"an OpSet that nobody uses":        fn("main", []int{1}, 0, 0, block(answer(), set(0, n(1)))),
		"an OpBin that nobody uses":        fn("main", []int{1, 1}, 0, 0, block(answer(), read(1), bin(0, v(1), "add", n(2)))),
		"an OpAddr that nobody uses":       fn("main", []int{1, 2}, 0, 0, block(answer(), addr(0, at(1)))),
		"a known word":                     fn("main", []int{1}, 0, 0, block(answer(), set(0, n(1)), show(v(0)))),
		"a known word further on":          fn("main", []int{1, 1}, 0, 0, block(answer(), set(0, n(1)), read(1), show(v(1)), show(v(0)))),
		"a known word of the end":          fn("f", []int{1}, 0, 1, block(answer(v(0)), set(0, n(1)))),
		"a known word that is an argument": fn("f", []int{1}, 1, 0, block(answer(), set(0, n(1)), calls(nil, "f", v(0)))),
		"a block that is a part":           fn("main", nil, 0, 0, block(jump(1), show(n(1))), ends),
		"a block that is a part further":   fn("main", []int{1}, 0, 0, ask, block(jump(3), show(n(1))), ends, block(jump(0), show(n(2)))),
		"a field that is not used":         starts([]int{1}, odd),
	} {
		if len(faults([]api.Mir{f}, []api.Mir{f})) == 0 {
			t.Errorf("%s is not seen: %s", what, told(f))
		}
	}
	for what, f := range map[string]api.Mir{
		"nothing":                     fn("main", nil, 0, 0, ends),
		"a first block that goes on":  fn("main", []int{1}, 0, 0, block(jump(1)), block(branch(v(0), 1, 2), read(0)), ends),
		"a block that goes to itself": fn("main", []int{1}, 0, 0, ask, ends, block(jump(2))),
		"a block to the first one":    fn("main", []int{1}, 0, 0, ask, ends, block(jump(0), show(n(1)))),
		"a word that is set again":    fn("main", []int{1}, 0, 0, block(jump(1), set(0, n(1))), block(branch(v(0), 1, 2), show(v(0)), read(0)), ends),
		"a local that is not plain":   fn("main", []int{1, 1}, 0, 0, block(answer(), set(0, n(1)), addr(1, at(0)), show(v(0)), show(v(1)))),
	} {
		if list := faults([]api.Mir{f}, []api.Mir{f}); len(list) > 0 {
			t.Errorf("%s: %v", what, list)
		}
	}
}
