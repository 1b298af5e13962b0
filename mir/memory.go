package mir

import (
	"sort"

	"ferrule/api"
	"ferrule/heap"
)

const (
	// firstLocal is the address of main's first local: far from the heap, and a number that functions hardly come to otherwise.
	firstLocal = 1_234_567_892
	// mostRoom is how many words of addresses locals may take, so that none is beyond a word.
	mostRoom = 1 << 29
	// gap is how many words behind each local are nobody's, so that what lies just beyond one is not in another one.
	gap = 64
	// few is how many locals a function may have for that: of more of them there is one such word behind each, as addresses have an end.
	few = 1024
)

// gapOf tells how many words behind each of so many locals are nobody's.
func gapOf(locals int) int {
	if locals > few {
		return 1
	}
	return gap
}

// start tells how many words of addresses the locals ahead of one take.
func (f *function) start(local int) int { return f.ahead[local] + f.gap*local }

// size tells how many words of addresses all locals take.
func (f *function) size() int { return f.words + f.gap*len(f.Locals) }

// room tells where the locals of one more call lie, if there are so many addresses left.
func (r *run) room(f *function) (uint32, bool) {
	taken := 0
	if len(r.calls) > 0 {
		taken = int(r.now.base-firstLocal)/4 + r.now.size()
	}
	return firstLocal + 4*uint32(taken), f.size() <= mostRoom-taken
}

// where tells the address of a local.
func (c *call) where(local int) uint32 { return c.base + 4*uint32(c.start(local)) }

// place tells the address of a place.
func (r *run) place(p *api.Place) uint32 {
	at := r.now.where(p.Local)
	for _, s := range p.Steps {
		switch s.Kind {
		case api.StAdd:
			at += 4 * uint32(s.N)
		case api.StIndex:
			at += 4 * uint32(s.Size) * uint32(r.now.word(api.Operand{N: s.N}))
		case api.StHeld:
			at = uint32(*r.at(at))
		}
	}
	return at
}

// at tells the word at an address that may be used; at others the run ends.
func (r *run) at(at uint32) *int32 {
	if r.heap.Within(int(at), 1) {
		return &r.blocks[(at-heap.Base)/4]
	}
	if c := r.around(at); c != nil && at%4 == 0 {
		if k, ok := c.find(int(at-c.base) / 4); ok {
			return &c.kept[k]
		}
	}
	trap()
	return nil
}

// around tells the last call whose first local does not lie behind an address, if there is one.
// That call has locals: one without any begins where the next one does, and who asks for an address has a local that it began from.
func (r *run) around(at uint32) *call {
	n := sort.Search(len(r.calls), func(k int) bool { return r.calls[k].base > at })
	if n == 0 {
		return nil
	}
	return r.calls[n-1]
}

// find tells which of a call's words is so many words of addresses behind its first local; false: none of any local's.
func (c *call) find(far int) (int, bool) {
	local := sort.Search(len(c.Locals), func(k int) bool { return c.start(k) > far }) - 1
	behind := far - c.start(local)
	return c.ahead[local] + behind, behind < c.Locals[local]
}

// copy brings words from one address to another one; all of them are read first, as they may lie over one another.
func (r *run) copy(to, from uint32, n int) {
	words := make([]int32, n)
	for k := range words {
		words[k] = *r.at(from + 4*uint32(k))
	}
	for k, v := range words {
		*r.at(to + 4*uint32(k)) = v
	}
}

func (r *run) alloc(words int) int32 {
	at, e := r.heap.Alloc(words)
	if e != api.OK {
		end(api.OutMemory, 0)
	}
	return int32(at)
}

func (r *run) free(at uint32) {
	if r.heap.Free(int(at)) != api.OK {
		trap()
	}
}
