package lower

import (
	"cmp"
	"slices"

	"ferrule/api"
	"ferrule/needs"
)

// mostRegs is how many registers a function may have.
const mostRegs = 1 << 16

// span is from where to where a register is in use, by positions.
type span struct{ reg, from, to int }

// share lets registers that are never in use at one time be one, so that a function that needs more of them than there may be, one behind the other, has enough.
func share(f *api.LowFunc) {
	names := make([]int, f.Regs)
	f.Regs = named(spans(f), names)
	other := func(reg *int) { *reg = names[*reg] }
	needs.EachOf(f.Params, other)
	for k := range f.Blocks {
		b := &f.Blocks[k]
		for at := range b.List {
			needs.EachRead(&b.List[at], other)
			needs.EachSet(&b.List[at], other)
		}
		needs.EachEndRead(&b.Term, other)
	}
}

// named gives registers other names, and tells how many these are. If more registers are in use at one time than there may be, the last name is given to all that are left: no program has so many words at one time.
func named(list []span, names []int) int {
	byEnds := slices.Clone(list)
	slices.SortStableFunc(list, func(a, b span) int { return cmp.Compare(a.from, b.from) })
	slices.SortStableFunc(byEnds, func(a, b span) int { return cmp.Compare(a.to, b.to) })
	given := 0
	var free []int
	for _, s := range list {
		for byEnds[0].to < s.from {
			free = append(free, names[byEnds[0].reg])
			byEnds = byEnds[1:]
		}
		switch {
		case len(free) > 0:
			names[s.reg] = free[len(free)-1]
			free = free[:len(free)-1]
		case given < mostRegs:
			names[s.reg] = given
			given++
		default:
			names[s.reg] = mostRegs - 1
		}
	}
	return given
}

// spans tells of all registers that are used from where to where they are in use.
func spans(f *api.LowFunc) []span {
	all := make([]span, f.Regs)
	for reg := range all {
		all[reg] = span{reg, -1, -1}
	}
	needs.EachPosition(f, func(reg, at int) {
		s := &all[reg]
		if s.from < 0 {
			s.from = at
		}
		s.from, s.to = min(s.from, at), max(s.to, at)
	})
	return slices.DeleteFunc(all, func(s span) bool { return s.from < 0 })
}
