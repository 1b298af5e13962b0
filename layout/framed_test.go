package layout_test

import (
	"slices"

	"ferrule/api"
	"ferrule/layout"
)

// framer writes a function anew with one local as its frame: each local that lies there, by layout, is a part of that. Runs stay the same only if none lies over another one, and all lie in it.
type framer struct {
	where []int
	frame int // the local that is the frame
	out   api.Mir
	list  []api.Instr
}

// framed is a function so written, if a local of mir may be as great as its frame.
func framed(f api.Mir) (api.Mir, bool) {
	where, words := layout.Layout(f)
	if words > 4*api.MaxWords {
		return api.Mir{}, false
	}
	m := &framer{where: where, frame: len(f.Locals), out: f}
	m.out.Locals = append(slices.Clone(f.Locals), words)
	m.out.Blocks = []api.Block{m.begin(f)}
	for k := f.Params; k < len(f.Locals); k++ {
		if where[k] >= 0 {
			m.out.Locals[k] = 0
		}
	}
	for _, b := range f.Blocks {
		m.list = nil
		for _, in := range b.List {
			m.instr(in)
		}
		end := m.end(b.Term)
		m.out.Blocks = append(m.out.Blocks, block(end, m.list...))
	}
	return m.out, true
}

// begin brings the params that lie in the frame there.
func (m *framer) begin(f api.Mir) api.Block {
	b := block(jump(1))
	for k, words := range f.Locals[:f.Params] {
		if m.where[k] < 0 {
			continue
		}
		for word := range words {
			scalar := m.scalar()
			b.List = append(b.List, load(scalar, at(k, step(word))), store(at(m.frame, step(m.where[k]+word)), v(scalar)))
		}
	}
	return b
}

func (m *framer) scalar() int {
	m.out.Locals = append(m.out.Locals, 1)
	return len(m.out.Locals) - 1
}

func (m *framer) word(o api.Operand) api.Operand {
	if o.Const || m.where[o.N] < 0 {
		return o
	}
	scalar := m.scalar()
	m.list = append(m.list, load(scalar, at(m.frame, step(m.where[o.N]))))
	return v(scalar)
}

func (m *framer) words(list []api.Operand) []api.Operand {
	var out []api.Operand
	for _, o := range list {
		out = append(out, m.word(o))
	}
	return out
}

func (m *framer) place(p api.Place) api.Place {
	out := at(p.Local)
	if m.where[p.Local] >= 0 {
		out = at(m.frame, step(m.where[p.Local]))
	}
	for _, s := range p.Steps {
		if s.Kind == api.StIndex {
			s.N = m.word(v(s.N)).N
		}
		out.Steps = append(out.Steps, s)
	}
	return out
}

// instr writes an instruction; what it sets in the frame is stored behind it.
func (m *framer) instr(in api.Instr) {
	var behind []api.Instr
	dst := func(k int) int {
		if m.where[k] < 0 {
			return k
		}
		scalar := m.scalar()
		behind = append(behind, store(at(m.frame, step(m.where[k])), v(scalar)))
		return scalar
	}
	switch in.Op {
	case api.OpBin:
		in.A, in.B = m.word(in.A), m.word(in.B)
	case api.OpSet, api.OpStore, api.OpFree, api.OpPrint:
		in.A = m.word(in.A)
	case api.OpCall:
		in.Args, in.Dsts = m.words(in.Args), slices.Clone(in.Dsts)
		for k := range in.Dsts {
			in.Dsts[k] = dst(in.Dsts[k])
		}
	}
	switch in.Op {
	case api.OpSet, api.OpBin, api.OpLoad, api.OpAddr, api.OpAlloc, api.OpRead:
		in.Dst = dst(in.Dst)
	}
	switch len(places(in)) {
	case 1:
		in.P = m.place(in.P)
	case 2:
		in.P, in.Q = m.place(in.P), m.place(in.Q)
	}
	m.list = append(append(m.list, in), behind...)
}

func (m *framer) end(t api.Term) api.Term {
	switch t.Kind {
	case api.TeIf:
		t.A = m.word(t.A)
	case api.TeReturn:
		t.Args = m.words(t.Args)
	}
	t.To++
	t.Else++
	return t
}
