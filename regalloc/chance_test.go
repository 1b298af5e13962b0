package regalloc_test

import (
	"fmt"
	"math/rand"
	"slices"
	"testing"

	"ferrule/api"
	"ferrule/low"
)

// maker makes functions by chance that low.Check takes.
type maker struct {
	*rand.Rand
	heads []api.LowFunc
	me    api.LowFunc
	near  int // registers near this one are used more often, so that many ranges are short
}

func (m *maker) often(times int) bool { return m.Intn(times) == 0 }

func (m *maker) text(list ...string) string { return list[m.Intn(len(list))] }

// set is a register that is set: there is one.
func (m *maker) set() int {
	if m.often(12) {
		return m.Intn(m.me.Regs)
	}
	return (m.near + m.Intn(6)) % m.me.Regs
}

// read is a register that is read, or 0.
func (m *maker) read() int {
	if m.me.Regs == 0 || m.often(6) {
		return zero
	}
	return m.set()
}

// begin is where an address begins: mostly with the frame, as few registers hold one.
func (m *maker) begin() int {
	if m.often(25) {
		return m.read()
	}
	return frame
}

func (m *maker) many(n int, one func() int) (list []int) {
	for range n {
		list = append(list, one())
	}
	return list
}

func (m *maker) call() api.Low {
	f := m.heads[m.Intn(len(m.heads))]
	if f.Answers > 0 && m.me.Regs == 0 {
		return show(zero)
	}
	return calls(m.many(f.Answers, m.set), f.Name, m.many(len(f.Params), m.read)...)
}

func (m *maker) instr(callsToo bool) api.Low {
	if m.me.Regs == 0 {
		return []api.Low{show(zero), sw(frame, 4*m.Intn(4), zero)}[m.Intn(2)]
	}
	switch m.Intn(13) {
	case 0, 1:
		return li(m.set(), m.Intn(9)-2)
	case 2:
		return mv(m.set(), m.read())
	case 3, 4:
		return bin(m.set(), m.read(), m.text("add", "sub", "xor", "mul", "slt", "divu"), m.read())
	case 5, 6:
		return imm(m.set(), m.read(), m.text("add", "and", "slt", "sll"), m.Intn(8))
	case 7:
		return lw(m.set(), m.begin(), 4*m.Intn(4))
	case 8:
		return sw(m.begin(), 4*m.Intn(4), m.read())
	case 9:
		if callsToo {
			return m.call()
		}
	case 10:
		return read(m.set())
	case 11:
		return alloc(m.set(), m.Intn(5))
	}
	return api.Low{Op: api.LoPrint, A: m.read(), N: m.Intn(2)}
}

// term is an end: mostly one that goes on, so that many blocks are come to, with some loops.
func (m *maker) term(k, blocks int) api.LowTerm {
	goal := func() int {
		if m.often(3) {
			return m.Intn(blocks)
		}
		return min(k+1, blocks-1)
	}
	switch kind := m.Intn(20); {
	case kind < 7 && k < blocks-1:
		return jump(goal())
	case kind < 15 && k < blocks-1:
		return branch(m.read(), m.text("eq", "ne", "lt", "ge", "ltu", "geu"), m.read(), goal(), goal())
	case kind == 19:
		return fail()
	}
	return answer(m.many(m.me.Answers, m.read)...)
}

// made is functions made by chance, at times without calls.
func made(seed int64) []api.LowFunc {
	m := &maker{Rand: rand.New(rand.NewSource(seed))}
	most := []int{5, 20, 60, 150}[m.Intn(4)]
	for _, name := range []string{"f", "g", "main"}[m.Intn(3):] {
		f := api.LowFunc{Name: name, Regs: m.Intn(most), Frame: 4, Quiet: m.often(4)}
		if name != "main" {
			f.Answers = m.Intn(api.MaxPass + 1)
		}
		if name != "main" && f.Regs > 0 {
			f.Params = m.many(m.Intn(api.MaxPass+1), func() int { return m.Intn(f.Regs) })
		}
		m.heads = append(m.heads, f)
	}
	l := slices.Clone(m.heads)
	for k := range l {
		m.me, m.near = l[k], 0
		callsToo, blocks := !m.often(3), 1+m.Intn(8)
		for at := range blocks {
			b := api.LowBlock{Term: m.term(at, blocks)}
			for range m.Intn(30) {
				b.List = append(b.List, m.instr(callsToo))
				m.near += m.Intn(2)
			}
			l[k].Blocks = append(l[k].Blocks, b)
		}
	}
	return l
}

// lined is a function of one block in which ranges begin and end by chance, at most so many at one position but where some end and others begin; of so many calls in ten instructions.
func lined(seed int64, all, width, often int) api.LowFunc {
	r := rand.New(rand.NewSource(seed))
	names := r.Perm(all)
	var open []int
	var list []api.Low
	next := func() int {
		reg := names[0]
		names = names[1:]
		if r.Intn(20) > 0 { // else nothing reads it
			open = append(open, reg)
		}
		return reg
	}
	old := func(end bool) int {
		if len(open) == 0 {
			return zero
		}
		k := r.Intn(len(open))
		reg := open[k]
		if end {
			open = slices.Delete(open, k, k+1)
		}
		return reg
	}
	for len(names) > 0 {
		switch kind := r.Intn(10); {
		case kind < often:
			in := calls(nil, "g")
			for range r.Intn(4) {
				in.Args = append(in.Args, old(r.Intn(2) == 0))
			}
			for len(open) < width && len(names) > 0 && r.Intn(3) > 0 {
				in.Dsts = append(in.Dsts, next())
			}
			if set := old(true); set != zero && r.Intn(3) == 0 {
				in.Dsts = append(in.Dsts, set) // nobody needs it any more
			}
			list = append(list, in)
		case len(open) >= width || kind == 9:
			list = append(list, show(old(true)))
		case kind < 5:
			list = append(list, li(next(), 1))
		case kind < 7:
			a, b := old(true), old(false)
			list = append(list, bin(next(), a, "add", b))
		default:
			a := old(r.Intn(2) == 0)
			list = append(list, mv(next(), a))
		}
	}
	for len(open) > 0 {
		list = append(list, show(old(true)))
	}
	return fn(all, nil, 0, block(answer(), list...))
}

// seen counts what there was of each kind.
type seen map[string]int

func (s seen) add(x told) {
	for reg, at := range x.at {
		switch {
		case at < 0:
			s["slot"]++
		case slices.Contains(theLost(), at):
			s["lost"]++
		case at > 0 && x.ranges[reg].Calls:
			s["kept over a call"]++
		case at > 0:
			s["kept"]++
		default:
			s["nowhere"]++
		}
	}
	switch most, with := x.most(), x.hasCalls(); {
	case x.slots > 0 && with == 0:
		s["slots without calls"]++
	case x.slots > 0:
		s["slots with calls"]++
	case most > 11 && with == 0:
		s["Kept and Lost together"]++
	case most == 11 && with > 0:
		s["Kept just enough"]++
	}
	if len(x.used()) > 15 && x.allMeet() {
		s["all meet"]++
	}
}

func (s seen) want(t *testing.T, least int, kinds ...string) {
	t.Helper()
	for _, kind := range kinds {
		if s[kind] < least {
			t.Errorf("%s: only %d times: %v", kind, s[kind], s)
		}
	}
}

func TestLinesByChance(t *testing.T) {
	s := seen{}
	for seed := range int64(6000) {
		width, often := 1+int(seed)%25, int(seed)%4
		f := lined(seed, 20+int(seed)%140, width, often)
		s.add(byWords(t, fmt.Sprintf("line %d", seed), f))
	}
	s.want(t, 200, "slot", "lost", "kept", "kept over a call", "slots without calls", "slots with calls", "Kept and Lost together", "Kept just enough")
}

func TestByChance(t *testing.T) {
	s := seen{}
	for seed := range int64(3000) {
		l := made(seed)
		if e := low.Check(l); e != api.OK {
			t.Fatal(seed, e)
		}
		for _, f := range l {
			s.add(byWords(t, fmt.Sprintf("seed %d", seed), f))
		}
	}
	s.want(t, 100, "nowhere", "slot", "lost", "kept", "kept over a call", "slots without calls", "slots with calls", "Kept and Lost together", "all meet")
}
