package fold

import (
	"slices"

	"ferrule/api"
)

// copyOf is a function in new memory, with nothing in it that is not used.
func copyOf(f *api.Mir) api.Mir {
	out := *f
	out.Locals = slices.Clone(f.Locals)
	out.Blocks = make([]api.Block, len(f.Blocks))
	for k := range f.Blocks {
		b := &f.Blocks[k]
		list := make([]api.Instr, len(b.List))
		for at := range b.List {
			list[at] = copyOfInstr(&b.List[at])
		}
		out.Blocks[k] = api.Block{List: list, Term: copyOfTerm(&b.Term)}
	}
	return out
}

func copyOfInstr(in *api.Instr) api.Instr {
	out, has := api.Instr{Op: in.Op}, partsOf(in.Op)
	if has.local {
		out.Dst = in.Dst
	}
	if has.a {
		out.A = in.A
	}
	if has.b {
		out.B = in.B
	}
	if has.p {
		out.P = copyOfPlace(&in.P)
	}
	if has.q {
		out.Q = copyOfPlace(&in.Q)
	}
	if has.number {
		out.N = in.N
	}
	if has.text {
		out.Text = in.Text
	}
	if has.typed {
		out.Type = copyOfType(in.Type)
	}
	if has.call {
		out.Args, out.Dsts = slices.Clone(in.Args), slices.Clone(in.Dsts)
	}
	return out
}

func copyOfPlace(p *api.Place) api.Place {
	out := api.Place{Local: p.Local}
	for _, s := range p.Steps {
		step := api.Step{Kind: s.Kind}
		if s.Kind != api.StHeld {
			step.N = s.N
		}
		if s.Kind == api.StIndex {
			step.Size = s.Size
		}
		out.Steps = append(out.Steps, step)
	}
	return out
}

func copyOfType(t api.Type) api.Type {
	t.Elem = slices.Clone(t.Elem)
	for k := range t.Elem {
		t.Elem[k] = copyOfType(t.Elem[k])
	}
	return t
}

func copyOfTerm(t *api.Term) api.Term {
	out := api.Term{Kind: t.Kind}
	switch t.Kind {
	case api.TeGoto:
		out.To = t.To
	case api.TeIf:
		out.A, out.To, out.Else = t.A, t.To, t.Else
	case api.TeReturn:
		out.Args = slices.Clone(t.Args)
	}
	return out
}
