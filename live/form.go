package live

import (
	"slices"

	"ferrule/api"
	"ferrule/low"
)

// isFormed tells whether low.Check takes a function by itself. Calls of others do not matter, but that their registers are some.
func isFormed(f api.LowFunc) bool {
	isOthers := func(in api.Low) bool { return in.Op == api.LoCall && in.Text != f.Name }
	isWrong := func(in api.Low) bool {
		return isOthers(in) && !(areSome(in.Args, api.RegZero, f.Regs) && areSome(in.Dsts, 0, f.Regs))
	}
	blocks := slices.Clone(f.Blocks)
	for k, b := range blocks {
		switch {
		case slices.ContainsFunc(b.List, isWrong):
			return false
		case slices.ContainsFunc(b.List, isOthers):
			blocks[k].List = slices.DeleteFunc(slices.Clone(b.List), isOthers)
		}
	}
	f.Blocks = blocks
	return low.Check([]api.LowFunc{f}) == api.OK
}

// areSome tells whether registers are from the least one on that may stand there, and below how many there are.
func areSome(list []int, least, many int) bool {
	for _, reg := range list {
		if reg < least || reg >= many {
			return false
		}
	}
	return true
}
