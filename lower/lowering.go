package lower

import (
	"ferrule/api"
	"ferrule/needs"
)

const wordBytes = 4

// frame is where a function's locals lie, in words (below 0: in a register), and how many words that takes.
type frame struct {
	at    []int
	words int
}

// lowering brings one function into the low form.
type lowering struct {
	f     *api.Mir
	at    []int              // of each local: where it lies in the frame, in bytes; below 0: in a register
	names map[string]meaning // what follows from each operation's name
	by    map[int]func(in *api.Instr)
	add   func(in api.Low) // adds an instruction to the last block

	out    api.LowFunc // ends go to labels, till all blocks are there
	regs   map[int]int // the registers of the locals that have one
	labels []int       // where the block of each label stands; the first labels are the blocks of f
}

func newLowering(f *api.Mir, lies frame, names map[string]meaning) *lowering {
	m := &lowering{f: f, at: make([]int, len(lies.at)), names: names, regs: map[int]int{}, labels: make([]int, len(f.Blocks))}
	for local, words := range lies.at {
		m.at[local] = wordBytes * words
	}
	m.out = api.LowFunc{Name: f.Name, Answers: f.Answers, Frame: lies.words, Quiet: f.Quiet}
	m.by = m.byKinds()
	m.add = func(in api.Low) {
		b := &m.out.Blocks[len(m.out.Blocks)-1]
		b.List = append(b.List, in)
	}
	return m
}

// byKinds tells how each operation is lowered.
func (m *lowering) byKinds() map[int]func(in *api.Instr) {
	return map[int]func(in *api.Instr){
		api.OpSet:   m.set,
		api.OpBin:   m.bin,
		api.OpLoad:  m.load,
		api.OpStore: m.store,
		api.OpCopy:  m.copy,
		api.OpAddr:  m.addr,
		api.OpAlloc: m.alloc,
		api.OpFree:  m.free,
		api.OpPrint: m.print,
		api.OpRead:  m.read,
		api.OpCall:  m.call,
	}
}

func (m *lowering) function() api.LowFunc {
	m.enter()
	for k := range m.f.Blocks {
		if k > 0 {
			m.begin(k)
		}
		b := &m.f.Blocks[k]
		for at := range b.List {
			m.by[b.List[at].Op](&b.List[at])
		}
		m.term(&b.Term)
	}
	m.resolve()
	m.compare()
	if m.out.Regs > mostRegs {
		share(&m.out)
	}
	return m.out
}

// enter begins the first block, behind what brings the params into the frame that lie there. That is done once, so it has a block of its own, if the first one is gone to.
func (m *lowering) enter() {
	stored := m.params()
	if len(stored) > 0 && m.comesAgain() {
		m.begin(m.label())
		m.addAll(stored)
		m.goTo(0)
		m.begin(0)
		return
	}
	m.begin(0)
	m.addAll(stored)
}

// params tells the function its params, and what brings those of the frame there.
func (m *lowering) params() (stored []api.Low) {
	for local, words := range m.f.Locals[:m.f.Params] {
		for k := range words {
			reg := m.fresh()
			m.out.Params = append(m.out.Params, reg)
			if m.isPlain(local) {
				m.regs[local] = reg
			} else {
				stored = append(stored, api.Low{Op: api.LoSw, A: api.RegFrame, N: m.at[local] + wordBytes*k, B: reg})
			}
		}
	}
	return stored
}

// comesAgain tells whether an end goes to the first block.
func (m *lowering) comesAgain() bool {
	for k := range m.f.Blocks {
		t := &m.f.Blocks[k].Term
		if (t.Kind == api.TeGoto || t.Kind == api.TeIf) && t.To == 0 || t.Kind == api.TeIf && t.Else == 0 {
			return true
		}
	}
	return false
}

func (m *lowering) addAll(list []api.Low) {
	for _, in := range list {
		m.add(in)
	}
}

func (m *lowering) isPlain(local int) bool { return m.at[local] < 0 }

// fresh is a register that nothing else is in: short uses of many registers are easier to place than long ones of few.
func (m *lowering) fresh() int {
	m.out.Regs++
	return m.out.Regs - 1
}

// register is a plain local's.
func (m *lowering) register(local int) int {
	reg, has := m.regs[local]
	if !has {
		reg = m.fresh()
		m.regs[local] = reg
	}
	return reg
}

// word is what an operand's word is read of.
func (m *lowering) word(o api.Operand) int {
	switch {
	case o.Const:
		return m.number(o.N)
	case m.isPlain(o.N):
		return m.register(o.N)
	}
	reg := m.fresh()
	m.add(api.Low{Op: api.LoLw, D: reg, A: api.RegFrame, N: m.at[o.N]})
	return reg
}

func (m *lowering) number(n int) int {
	if word(n) == 0 {
		return api.RegZero
	}
	reg := m.fresh()
	m.add(api.Low{Op: api.LoLi, D: reg, N: word(n)})
	return reg
}

func (m *lowering) words(list []api.Operand) []int {
	var out []int
	for _, o := range list {
		out = append(out, m.word(o))
	}
	return out
}

// into brings into a scalar the word that code brings into a register.
func (m *lowering) into(scalar int, code func(reg int)) {
	if m.isPlain(scalar) {
		code(m.register(scalar))
		return
	}
	reg := m.fresh()
	code(reg)
	m.keep(scalar, reg)
}

// keep brings a register's word into a scalar that lies in the frame.
func (m *lowering) keep(scalar, reg int) {
	m.add(api.Low{Op: api.LoSw, A: api.RegFrame, N: m.at[scalar], B: reg})
}

// label is a new one, of no block of f.
func (m *lowering) label() int {
	m.labels = append(m.labels, 0)
	return len(m.labels) - 1
}

// begin begins the block of a label.
func (m *lowering) begin(label int) {
	m.labels[label] = len(m.out.Blocks)
	m.out.Blocks = append(m.out.Blocks, api.LowBlock{})
}

// end ends the last block.
func (m *lowering) end(t api.LowTerm) { m.out.Blocks[len(m.out.Blocks)-1].Term = t }

func (m *lowering) goTo(label int) { m.end(api.LowTerm{Kind: api.TeGoto, To: label}) }

// fork goes to one of two labels: does a comparison hold?
func (m *lowering) fork(a int, text string, b, yes, no int) {
	m.end(api.LowTerm{Kind: api.TeIf, A: a, Text: text, B: b, To: yes, Else: no})
}

func (m *lowering) term(t *api.Term) {
	switch t.Kind {
	case api.TeGoto:
		m.goTo(t.To)
	case api.TeIf:
		m.fork(m.word(t.A), "ne", api.RegZero, t.To, t.Else)
	case api.TeReturn:
		m.end(api.LowTerm{Kind: t.Kind, Args: m.words(t.Args)})
	default:
		m.end(api.LowTerm{Kind: t.Kind})
	}
}

// resolve lets ends go to blocks instead of labels.
func (m *lowering) resolve() {
	for k := range m.out.Blocks {
		needs.EachGoal(&m.out.Blocks[k].Term, func(to *int) { *to = m.labels[*to] })
	}
}
