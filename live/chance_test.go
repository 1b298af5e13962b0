package live_test

import (
	"fmt"
	"math/rand"
	"slices"
	"testing"

	"ferrule/api"
	"ferrule/live"
	"ferrule/low"
)

// maker makes functions by chance that low.Check takes.
type maker struct {
	*rand.Rand
	heads []api.LowFunc
	me    api.LowFunc
	last  int // the block that is made
	rises bool
}

func (m *maker) often(times int) bool { return m.Intn(times) == 0 }

func (m *maker) text(list ...string) string { return list[m.Intn(len(list))] }

// set is a register that is set: there is one.
func (m *maker) set() int { return m.Intn(m.me.Regs) }

// read is a register that is read, or 0.
func (m *maker) read() int {
	if m.me.Regs == 0 || m.often(6) {
		return zero
	}
	return m.set()
}

// begin is where an address begins: mostly with the frame, as few registers hold one.
func (m *maker) begin() int {
	if m.often(25) {
		return m.read()
	}
	return frame
}

func (m *maker) many(n int, one func() int) (list []int) {
	for range n {
		list = append(list, one())
	}
	return list
}

func (m *maker) call() api.Low {
	f := m.heads[m.Intn(len(m.heads))]
	if f.Answers > 0 && m.me.Regs == 0 {
		return show(zero)
	}
	return calls(m.many(f.Answers, m.set), f.Name, m.many(len(f.Params), m.read)...)
}

func (m *maker) instr() api.Low {
	if m.me.Regs == 0 {
		return []api.Low{show(zero), sw(frame, 4*m.Intn(4), zero), m.call()}[m.Intn(3)]
	}
	switch m.Intn(14) {
	case 0, 1:
		return li(m.set(), m.Intn(9)-2)
	case 2:
		return mv(m.set(), m.read())
	case 3, 4:
		return bin(m.set(), m.read(), m.text("add", "sub", "xor", "mul", "slt", "divu"), m.read())
	case 5, 6:
		return imm(m.set(), m.read(), m.text("add", "and", "slt", "sll"), m.Intn(8))
	case 7:
		return lw(m.set(), m.begin(), 4*m.Intn(4))
	case 8:
		return sw(m.begin(), 4*m.Intn(4), m.read())
	case 9:
		return m.call()
	case 10, 11:
		return api.Low{Op: api.LoPrint, A: m.read(), N: m.Intn(2)}
	case 12:
		return read(m.set())
	}
	if m.often(15) {
		return free(m.read())
	}
	return alloc(m.set(), m.Intn(5))
}

// goal is a block that an end goes to: if the function has no loops, one behind the end's own.
func (m *maker) goal(blocks int) int {
	if m.rises {
		return m.last + 1 + m.Intn(blocks-m.last-1)
	}
	return m.Intn(blocks)
}

func (m *maker) term(blocks int) api.LowTerm {
	kind := m.Intn(10)
	if m.rises && m.last == blocks-1 {
		kind = 9
	}
	switch {
	case kind < 3:
		return jump(m.goal(blocks))
	case kind < 8:
		return branch(m.read(), m.text("eq", "ne", "lt", "ge", "ltu", "geu"), m.read(), m.goal(blocks), m.goal(blocks))
	case m.often(8):
		return fail()
	}
	return answer(m.many(m.me.Answers, m.read)...)
}

// made is functions made by chance; in some no way goes round.
func made(seed int64) []api.LowFunc {
	m := &maker{Rand: rand.New(rand.NewSource(seed))}
	for _, name := range []string{"f", "g", "main"}[m.Intn(3):] {
		f := api.LowFunc{Name: name, Regs: m.Intn(9), Frame: 4, Quiet: m.often(4)}
		if name != "main" {
			f.Answers = m.Intn(4)
		}
		if name != "main" && f.Regs > 0 {
			f.Params = m.many(m.Intn(4), func() int { return m.Intn(f.Regs) })
		}
		m.heads = append(m.heads, f)
	}
	l := slices.Clone(m.heads)
	for k := range l {
		m.me, m.rises = l[k], m.often(3)
		blocks := 1 + m.Intn(7)
		for m.last = range blocks {
			b := api.LowBlock{Term: m.term(blocks)}
			for range m.Intn(6) {
				b.List = append(b.List, m.instr())
			}
			l[k].Blocks = append(l[k].Blocks, b)
		}
	}
	return l
}

// hasLoops tells whether an end of a function goes to its own block, or to one ahead.
func hasLoops(f api.LowFunc) bool {
	for k, b := range f.Blocks {
		if (b.Term.Kind == api.TeGoto || b.Term.Kind == api.TeIf) && b.Term.To <= k || b.Term.Kind == api.TeIf && b.Term.Else <= k {
			return true
		}
	}
	return false
}

// TestByChance holds what is told of functions against the plain words, and these against what is sought along the ways.
func TestByChance(t *testing.T) {
	seen := map[string]int{}
	for seed := range int64(4000) {
		if e := low.Check(made(seed)); e != api.OK {
			t.Fatal(seed, e)
		}
		for _, f := range made(seed) {
			holdAgainstPlain(t, "by chance", f)
			p := plainOf(f)
			for reg := range f.Regs {
				for at := range p.list {
					if p.ahead(reg, at) != p.seek(reg, at, map[int]bool{}) {
						t.Fatalf("%d: plain words are not alike of the register %d at %d: %+v", seed, reg, at, f)
					}
				}
			}
			for _, r := range live.Ranges(f) {
				seen[map[bool]string{true: "a call within", false: "no call within"}[r.Calls]]++
				if r == unused() {
					seen["unused"]++
				}
			}
			in, out := live.Live(f)
			for k := range in {
				if len(in[k]) > 2 && len(out[k]) > 2 && !slices.Equal(in[k], out[k]) {
					seen["some go, some come"]++
				}
			}
			seen[fmt.Sprint("loops: ", hasLoops(f))]++
		}
	}
	for _, what := range []string{"a call within", "no call within", "unused", "some go, some come", "loops: true", "loops: false"} {
		if seen[what] < 1000 {
			t.Errorf("%s: only %d times", what, seen[what])
		}
	}
}

// TestWithin is P19.4's first half: wherever a register is needed, and all the way from there to what reads it, is within its range.
func TestWithin(t *testing.T) {
	ways := 0
	for seed := range int64(2500) {
		for _, f := range made(seed) {
			ranges := live.Ranges(f)
			p := plainOf(f)
			for reg, r := range ranges {
				for at := range p.list {
					if !p.seek(reg, at, map[int]bool{}) {
						continue
					}
					ways++
					p.follow(reg, at, map[int]bool{}, func(at int) {
						if at < r.From || at > r.To {
							t.Fatalf("%d: the register %d is needed at %d, but its range is %v: %+v", seed, reg, at, r, f)
						}
					})
				}
			}
		}
	}
	if ways < 10_000 {
		t.Error(ways)
	}
}

// follow tells all positions on the ways from one on to what reads a register, with nothing that sets it in between.
func (p *plain) follow(reg, at int, seen map[int]bool, tell func(at int)) {
	if seen[at] || !p.seek(reg, at, map[int]bool{}) {
		return
	}
	seen[at] = true
	tell(at)
	if slices.Contains(p.list[at].reads, reg) {
		return
	}
	for _, next := range p.list[at].next {
		p.follow(reg, next, seen, tell)
	}
}

// TestWithoutLoops is P19.4's second half: of a function without loops a register is needed at its beginning just if, on some way of all that there are, nothing sets it ahead of what reads it.
func TestWithoutLoops(t *testing.T) {
	seen := map[bool]int{}
	for seed := range int64(6000) {
		for _, f := range made(seed) {
			if hasLoops(f) || len(live.Ranges(f)) == 0 {
				continue
			}
			in, _ := live.Live(f)
			p := plainOf(f)
			ways := p.ways(0)
			for reg, r := range live.Ranges(f) {
				is := slices.ContainsFunc(ways, func(way []int) bool { return p.readsFirst(way, reg) })
				if slices.Contains(in[0], reg) != is {
					t.Fatalf("%d: the register %d is needed at the beginning: %v: %+v", seed, reg, !is, f)
				}
				if is && r.From != 0 {
					t.Fatalf("%d: the register %d is needed at the beginning, but from %d on: %+v", seed, reg, r.From, f)
				}
				seen[is]++
			}
		}
	}
	if seen[true] < 1000 || seen[false] < 1000 {
		t.Error(seen)
	}
}

// ways tells all ways from a position on to an end, one by one.
func (p *plain) ways(at int) (all [][]int) {
	if len(p.list[at].next) == 0 {
		return [][]int{{at}}
	}
	for _, next := range p.list[at].next {
		for _, way := range p.ways(next) {
			all = append(all, append([]int{at}, way...))
		}
	}
	return all
}

// readsFirst tells whether a register is read on a way with nothing ahead that sets it.
func (p *plain) readsFirst(way []int, reg int) bool {
	for _, at := range way {
		switch {
		case slices.Contains(p.list[at].reads, reg):
			return true
		case slices.Contains(p.list[at].sets, reg):
			return false
		}
	}
	return false
}

const fuel = 2000

func sameOutcome(a, b api.Outcome) bool {
	return a.Kind == b.Kind && a.Code == b.Code && slices.Equal(a.Print, b.Print)
}

// runs is how many runs ended in some way, of what was run.
type runs map[[2]int]int

func (r runs) want(t *testing.T, least int, kinds ...int) {
	t.Helper()
	for _, kind := range kinds {
		if r[[2]int{kind, 0}] < least {
			t.Errorf("only %d runs ended with the kind %d: %v", r[[2]int{kind, 0}], kind, r)
		}
	}
}

// TestNotNeeded: where a register is not needed, what it holds does not matter.
func TestNotNeeded(t *testing.T) {
	ended := runs{}
	for seed := range int64(4000) {
		l := made(seed)
		want, _ := low.Run(l, []int{3, 1, 2}, fuel)
		ended[[2]int{want.Kind, want.Code}]++
		if want.Kind == api.OutFuel {
			continue
		}
		var other []api.LowFunc
		for _, f := range l {
			other = append(other, spoilt(f))
		}
		if got, _ := low.Run(other, []int{3, 1, 2}, 20*fuel); !sameOutcome(got, want) {
			t.Fatalf("%d: %+v, not %+v: %+v", seed, got, want, l)
		}
	}
	ended.want(t, 100, api.OutExit, api.OutTrap, api.OutFuel)
}

// spoilt is a function that sets registers to anything where they are not needed: at the blocks' beginnings, and ahead of their ends.
func spoilt(f api.LowFunc) api.LowFunc {
	in, out := live.Live(f)
	f.Blocks = slices.Clone(f.Blocks)
	for k := range f.Blocks {
		b := &f.Blocks[k]
		var first, last []api.Low
		reads := append([]int{b.Term.A, b.Term.B}, b.Term.Args...)
		if b.Term.Kind != api.TeIf {
			reads = reads[2:]
		}
		for reg := range f.Regs {
			if !slices.Contains(in[k], reg) {
				first = append(first, li(reg, 1000+reg))
			}
			if !slices.Contains(out[k], reg) && !slices.Contains(reads, reg) {
				last = append(last, li(reg, 2000+reg))
			}
		}
		b.List = slices.Concat(first, b.List, last)
	}
	return f
}

// TestShared: registers whose ranges do not meet may be one.
func TestShared(t *testing.T) {
	ended, before, behind := runs{}, 0, 0
	for seed := range int64(6000) {
		l := made(seed)
		other := sharedAll(l)
		want, steps := low.Run(l, []int{3, 1, 2}, fuel)
		got, n := low.Run(other, []int{3, 1, 2}, fuel)
		if !sameOutcome(got, want) || n != steps {
			t.Fatalf("%d: %+v, %d, not %+v, %d: %+v", seed, got, n, want, steps, l)
		}
		ended[[2]int{want.Kind, want.Code}]++
		for k := range l {
			before, behind = before+l[k].Regs, behind+other[k].Regs
		}
	}
	ended.want(t, 100, api.OutExit, api.OutTrap, api.OutFuel)
	if behind > before*9/10 {
		t.Errorf("of %d registers there are %d", before, behind)
	}
}

func sharedAll(l []api.LowFunc) (out []api.LowFunc) {
	for _, f := range l {
		out = append(out, shared(f))
	}
	return out
}

// shared is a function in which registers that do not meet are one, as far as can be seen from the first ones on. Two that one call answers in are never one, as it sets both.
func shared(f api.LowFunc) api.LowFunc {
	ranges := live.Ranges(f)
	together := map[[2]int]bool{}
	for _, b := range f.Blocks {
		for _, in := range b.List {
			for _, x := range in.Dsts {
				for _, y := range in.Dsts {
					together[[2]int{x, y}] = true
				}
			}
		}
	}
	var all [][]int
	names := make([]int, f.Regs)
	for reg := range names {
		at := slices.IndexFunc(all, func(list []int) bool {
			return !slices.ContainsFunc(list, func(other int) bool {
				return live.Meet(ranges[reg], ranges[other]) || together[[2]int{reg, other}]
			})
		})
		if at < 0 {
			at = len(all)
			all = append(all, nil)
		}
		all[at] = append(all[at], reg)
		names[reg] = at
	}
	f = renamed(f, names)
	f.Regs = len(all)
	return f
}

// renamed is a function with other names of its registers.
func renamed(f api.LowFunc, names []int) api.LowFunc {
	other := func(reg int) int {
		if reg < 0 || reg >= len(names) {
			return reg
		}
		return names[reg]
	}
	all := func(list []int) (out []int) {
		for _, reg := range list {
			out = append(out, other(reg))
		}
		return out
	}
	f.Params = all(f.Params)
	f.Blocks = slices.Clone(f.Blocks)
	for k := range f.Blocks {
		b := &f.Blocks[k]
		b.List = slices.Clone(b.List)
		for at := range b.List {
			in := &b.List[at]
			in.D, in.A, in.B, in.Args, in.Dsts = other(in.D), other(in.A), other(in.B), all(in.Args), all(in.Dsts)
		}
		b.Term.A, b.Term.B, b.Term.Args = other(b.Term.A), other(b.Term.B), all(b.Term.Args)
	}
	return f
}
