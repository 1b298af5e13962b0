package drops

import (
	"math"

	"ferrule/api"
)

// What a local holds at a point of a function, on the ways that come there.
const (
	unreached = iota // no way does
	never
	always
	sometimes
)

// states tells which state it is, by whether the local may hold none, and whether it may hold a value.
var states = [2][2]int{{unreached, always}, {never, sometimes}}

// most is how many locals are gone over at once.
const most = 64

// bits are a pair of each local: may it hold none, may it hold a value?
type bits struct{ none, value uint64 }

// with is what may be where ways come together.
func (b bits) with(other bits) bits {
	return bits{b.none | other.none, b.value | other.value}
}

// behind is what may be behind changes, given what may be ahead of them. A local that they change has just one bit in them, others have none.
func (b bits) behind(changes bits) bits {
	return bits{b.none&^changes.value | changes.none, b.value&^changes.none | changes.value}
}

// state tells that of a local.
func (b bits) state(local uint64) int {
	return states[bit(b.none, local)][bit(b.value, local)]
}

func bit(all, one uint64) int {
	if all&one != 0 {
		return 1
	}
	return 0
}

// change is an operation that says what a local holds.
type change struct {
	at    spot
	clear bool
	local uint64
	bits  bits // what may be behind it
}

// locals are some of a function's that are gone over at once: all that changes what they hold, in the order in which it stands there.
type locals []change

// atClears tells what the local of each OpClear holds there.
func atClears(f *api.Mir) map[spot]int {
	out := map[spot]int{}
	for _, some := range cleared(f) {
		begins := some.flow(f.Blocks)
		some.follow(begins, func(at spot, state int) { out[at] = state })
	}
	return out
}

// cleared tells the locals that have an OpClear: of all others nothing is asked.
func cleared(f *api.Mir) []locals {
	which := map[int]int{}
	eachInstr(f, func(_ spot, in *api.Instr) {
		if _, had := which[in.Dst]; in.Op == api.OpClear && !had {
			which[in.Dst] = len(which)
		}
	})
	out := make([]locals, (len(which)+most-1)/most)
	eachInstr(f, func(at spot, in *api.Instr) {
		k, is := which[in.Dst]
		if !is || in.Op < api.OpGive || in.Op > api.OpClear {
			return
		}
		c := change{at: at, clear: in.Op == api.OpClear, local: 1 << (k % most)}
		if in.Op == api.OpGive {
			c.bits.value = c.local
		} else {
			c.bits.none = c.local
		}
		out[k/most] = append(out[k/most], c)
	})
	return out
}

// flow tells what may be where each block begins that a way comes to. It goes on from the first one, where no local holds a value, as long as something more may be somewhere.
func (l locals) flow(blocks []api.Block) map[int]bits {
	through := map[int]bits{}
	for _, c := range l {
		through[c.at.block] = through[c.at.block].behind(c.bits)
	}
	begins := map[int]bits{0: {none: math.MaxUint64}}
	for next := []int{0}; len(next) > 0; next = next[1:] {
		end := begins[next[0]].behind(through[next[0]])
		eachGoal(&blocks[next[0]].Term, func(to int) {
			if more := begins[to].with(end); more != begins[to] {
				begins[to] = more
				next = append(next, to)
			}
		})
	}
	return begins
}

// eachGoal goes over the blocks that an end goes to.
func eachGoal(t *api.Term, do func(to int)) {
	if t.Kind == api.TeGoto || t.Kind == api.TeIf {
		do(t.To)
	}
	if t.Kind == api.TeIf {
		do(t.Else)
	}
}

// follow goes over the changes, and tells what the local of each OpClear holds ahead of it.
func (l locals) follow(begins map[int]bits, tell func(at spot, state int)) {
	now, block := begins[0], 0
	for _, c := range l {
		if c.at.block != block {
			now, block = begins[c.at.block], c.at.block
		}
		if c.clear {
			tell(c.at, now.state(c.local))
		}
		if now != (bits{}) { // else no way comes there, whatever is changed
			now = now.behind(c.bits)
		}
	}
}
