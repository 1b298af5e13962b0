package frame_test

import (
	"math/rand"
	"slices"
	"testing"

	"ferrule/api"
	"ferrule/low"
	"ferrule/regalloc"
)

// The registers of functions made by chance: some for numbers, some for addresses of frames' words, some for those of blocks.
const (
	inFrames  = 5
	inBlocks  = 8
	allRegs   = 10
	frameSize = 6 // words, mostly
)

// maker makes functions by chance: most of what they do makes sense, some does not.
type maker struct {
	*rand.Rand
	heads []api.LowFunc
	me    api.LowFunc
	list  []api.Low
}

func (m *maker) often(times int) bool { return m.Intn(times) == 0 }

func (m *maker) one(list ...int) int { return list[m.Intn(len(list))] }

func (m *maker) text(list ...string) string { return list[m.Intn(len(list))] }

func (m *maker) number() int { return m.Intn(inFrames) }

func (m *maker) inFrame() int { return inFrames + m.Intn(inBlocks-inFrames) }

func (m *maker) inBlock() int { return inBlocks + m.Intn(allRegs-inBlocks) }

// operand is a register that is read: mostly of a number.
func (m *maker) operand() int {
	switch {
	case m.often(8):
		return zero
	case m.often(60):
		return m.Intn(allRegs)
	}
	return m.number()
}

// bytes are how far a word lies behind an address.
func (m *maker) bytes() int {
	if m.often(60) {
		return m.one(1, 2, 3, -4, 4*frameSize, 2047, -2048, 100)
	}
	return 4 * m.Intn(4)
}

// address is a register that is an address mostly; the words behind it that bytes tells are there mostly.
func (m *maker) address() int {
	switch {
	case m.often(100):
		return m.operand()
	case m.often(2):
		return within
	case m.often(2):
		return m.inFrame()
	}
	return m.inBlock()
}

func (m *maker) add(list ...api.Low) { m.list = append(m.list, list...) }

// words does something with numbers.
func (m *maker) words() {
	switch m.Intn(8) {
	case 0:
		m.add(li(m.number(), m.one(0, 1, 2, 3, -1, 5, 1<<31, 1<<32+2, m.Intn(100), -m.Intn(5000))))
	case 1:
		m.add(mv(m.number(), m.operand()))
	case 2, 3:
		m.add(bin(m.number(), m.operand(), m.text(binaries()...), m.operand()))
	case 4, 5:
		m.add(m.immediate())
	case 6:
		m.add(api.Low{Op: api.LoPrint, A: m.operand(), N: m.one(0, 1, 1, 2)})
	case 7:
		m.add(read(m.number()))
	}
}

func (m *maker) immediate() api.Low {
	if m.often(3) {
		return imm(m.number(), m.operand(), m.text("sll", "srl", "sra"), m.Intn(32))
	}
	return imm(m.number(), m.operand(), m.text("add", "and", "or", "xor", "slt", "sltu"), m.one(0, 1, -1, 7, 2047, -2048, m.Intn(100)))
}

// memory does something with words in frames and blocks.
func (m *maker) memory() {
	switch m.Intn(6) {
	case 0, 1:
		m.add(lw(m.number(), m.address(), m.bytes()))
	case 2, 3:
		m.add(sw(m.address(), m.bytes(), m.operand()))
	case 4:
		m.add(imm(m.inFrame(), within, "add", 4*m.one(0, 0, 1, 2)))
	case 5:
		m.moved()
	}
}

// moved brings addresses about.
func (m *maker) moved() {
	switch m.Intn(5) {
	case 0:
		m.add(mv(m.inFrame(), m.inFrame()))
	case 1:
		m.add(mv(m.inBlock(), m.inBlock()))
	case 2:
		m.add(sw(within, 20, m.inFrame()), lw(m.inFrame(), within, 20))
	case 3:
		m.add(bin(m.number(), m.inBlock(), "sub", m.inBlock()))
	case 4:
		d, k := m.inFrame(), m.number()
		m.add(imm(k, k, "and", 4), bin(d, d, m.text("add", "sub"), k))
	}
}

// blocks does something with blocks.
func (m *maker) blocks() {
	k := m.inBlock()
	switch m.Intn(7) {
	case 0, 1, 2:
		m.add(alloc(k, m.one(0, 1, 2, 3, 4, 5, 100)))
	case 3, 4:
		m.add(alloc(k, 3), sw(k, 4*m.Intn(4), m.operand()))
	case 5:
		m.add(alloc(k, 2), free(k))
	case 6:
		m.add(free(k), alloc(k, 4))
	}
}

// called calls a function; its params are filled by registers of their kind.
func (m *maker) called() {
	f := m.heads[m.Intn(len(m.heads))]
	var args, dsts []int
	for _, reg := range f.Params {
		switch {
		case reg >= inBlocks:
			args = append(args, m.inBlock())
		case reg >= inFrames:
			args = append(args, m.inFrame())
		default:
			args = append(args, m.operand())
		}
	}
	for range f.Answers {
		dsts = append(dsts, m.number())
	}
	m.add(calls(dsts, f.Name, args...))
}

func (m *maker) term(blocks int) api.LowTerm {
	switch m.Intn(12) {
	case 0, 1:
		return jump(m.Intn(blocks))
	case 2, 3, 4, 5:
		return branch(m.operand(), m.text(questions()...), m.operand(), m.Intn(blocks), m.Intn(blocks))
	case 6:
		if m.often(3) {
			return fail()
		}
	}
	var args []int
	for range m.me.Answers {
		args = append(args, m.operand())
	}
	return answer(args...)
}

func (m *maker) block(first bool, blocks int) api.LowBlock {
	m.list = nil
	if first { // addresses there are
		for reg := inFrames; reg < allRegs; reg++ {
			switch {
			case slices.Contains(m.me.Params, reg) || m.often(30):
			case reg < inBlocks:
				m.add(imm(reg, within, "add", 4*m.Intn(2)))
			default:
				m.add(alloc(reg, 4))
			}
		}
	}
	for range m.Intn(8) {
		switch m.Intn(10) {
		case 0, 1, 2:
			m.words()
		case 3, 4, 5:
			m.memory()
		case 6:
			m.blocks()
		case 7:
			m.called()
		case 8, 9:
			m.add(show(m.operand()))
		}
	}
	end := m.term(blocks)
	return block(end, m.list...)
}

// made is functions made by chance.
func made(seed int64) []api.LowFunc {
	m := &maker{Rand: rand.New(rand.NewSource(seed))}
	for k := range 1 + m.Intn(4) {
		f := fn(string(rune('f'+k)), allRegs, m.Perm(allRegs)[:m.Intn(6)], m.Intn(4), frameSize)
		f.Quiet = m.often(3)
		if m.often(12) {
			f.Frame = m.one(0, 1, 5, 30)
		}
		m.heads = append(m.heads, f)
	}
	m.heads = append(m.heads, fn("main", allRegs, nil, 0, frameSize))
	l := append([]api.LowFunc{}, m.heads...)
	for k := range l {
		m.me = m.heads[k]
		blocks := 1 + m.Intn(5)
		for at := range blocks {
			l[k].Blocks = append(l[k].Blocks, m.block(at == 0, blocks))
		}
	}
	return l
}

// TestByChance holds functions against their lines, where their runs do not hang on where frames lie, and do not trap.
func TestByChance(t *testing.T) {
	t.Parallel()
	const tries = 1200
	input := []int{3, 0, 1, -1, 1 << 33, 2, 7}
	seen, met, slots, unclear := map[[2]int]int{}, map[string]int{}, 0, 0
	for seed := range int64(tries) {
		r := rand.New(rand.NewSource(seed + 5000))
		l := crowd{r.Intn(20) * r.Intn(2), r.Intn(2) == 0, r.Intn(allRegs)}.all(made(seed))
		if e := low.Check(l); e != api.OK {
			t.Fatal(seed, e)
		}
		want, _ := plainRun(l, input, 1500, met)
		if want.unclear || want.out.Kind == api.OutTrap {
			unclear++
			lines(t, "by chance", l)
			continue
		}
		slots += slotsOf(t, l)
		got := holdWith(t, "by chance", 1500, input, l...)
		if !alike(got, want.out) {
			t.Fatalf("%d: %s, not %s", seed, told(got), told(want.out))
		}
		seen[[2]int{got.Kind, got.Code}]++
	}
	for _, kind := range [][2]int{{api.OutExit, 0}, {api.OutExit, 101}, {api.OutDepth}, {api.OutMemory}, {api.OutFuel}} {
		if seen[kind] < tries/200 {
			t.Errorf("only %d runs ended with %v: %v", seen[kind], kind, seen)
		}
	}
	for _, what := range []string{"a block's word", "a frame's word", "a load in another frame", "a store in another frame", "a call that came back", "a block let go"} {
		if met[what] < tries/20 {
			t.Errorf("%s: only %d times", what, met[what])
		}
	}
	if unclear > tries/2 || slots < 2*tries {
		t.Errorf("%d runs were unclear, %d slots", unclear, slots)
	}
	t.Log(seen, unclear, met, slots)
}

func slotsOf(t *testing.T, l []api.LowFunc) (all int) {
	t.Helper()
	for _, f := range l {
		_, slots, e := regalloc.Assign(f)
		if e != api.OK {
			t.Fatal("no places:", int(e))
		}
		all += slots
	}
	return all
}
