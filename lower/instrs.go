package lower

import "ferrule/api"

func (m *lowering) set(in *api.Instr) {
	switch {
	case !m.isPlain(in.Dst):
		m.keep(in.Dst, m.word(in.A))
	case in.A.Const:
		m.add(api.Low{Op: api.LoLi, D: m.register(in.Dst), N: word(in.A.N)})
	case m.isPlain(in.A.N):
		m.add(api.Low{Op: api.LoMv, D: m.register(in.Dst), A: m.register(in.A.N)})
	default:
		m.add(api.Low{Op: api.LoLw, D: m.register(in.Dst), A: api.RegFrame, N: m.at[in.A.N]})
	}
}

func (m *lowering) bin(in *api.Instr) {
	a, b, how := in.A, in.B, m.names[in.Text]
	if how.turns && a.Const && !b.Const {
		a, b = b, a
	}
	first := m.word(a)
	if n, can := how.number(b); can {
		m.into(in.Dst, func(reg int) {
			m.add(api.Low{Op: api.LoImm, D: reg, A: first, Text: how.inside, N: n})
		})
		return
	}
	second := m.word(b)
	m.into(in.Dst, func(reg int) {
		m.add(api.Low{Op: api.LoBin, D: reg, A: first, Text: in.Text, B: second})
	})
}

func (m *lowering) load(in *api.Instr) {
	from := m.within(m.place(&in.P), 1)
	m.into(in.Dst, func(reg int) { m.loadAt(reg, from, 0) })
}

func (m *lowering) store(in *api.Instr) {
	to := m.within(m.place(&in.P), 1)
	m.storeAt(m.word(in.A), to, 0)
}

func (m *lowering) addr(in *api.Instr) {
	p := m.within(m.place(&in.P), 1)
	m.into(in.Dst, func(reg int) { m.addAddress(reg, p) })
}

func (m *lowering) alloc(in *api.Instr) {
	m.into(in.Dst, func(reg int) { m.add(api.Low{Op: api.LoAlloc, D: reg, N: in.N}) })
}

func (m *lowering) free(in *api.Instr) {
	m.add(api.Low{Op: api.LoFree, A: m.word(in.A)})
}

func (m *lowering) print(in *api.Instr) {
	out := api.Low{Op: api.LoPrint, A: m.word(in.A)}
	if in.N == 1 {
		out.N = 1
	}
	m.add(out)
}

func (m *lowering) read(in *api.Instr) {
	m.into(in.Dst, func(reg int) { m.add(api.Low{Op: api.LoRead, D: reg}) })
}

// call brings what comes back into the frame behind the call, where it lies there, in order: one that stands there twice has its last word.
func (m *lowering) call(in *api.Instr) {
	out := api.Low{Op: api.LoCall, Text: in.Text, Args: m.words(in.Args)}
	for _, dst := range in.Dsts {
		if m.isPlain(dst) {
			out.Dsts = append(out.Dsts, m.register(dst))
		} else {
			out.Dsts = append(out.Dsts, m.fresh())
		}
	}
	m.add(out)
	for k, dst := range in.Dsts {
		if !m.isPlain(dst) {
			m.keep(dst, out.Dsts[k])
		}
	}
}
