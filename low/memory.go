package low

import (
	"sort"

	"ferrule/api"
	"ferrule/heap"
)

const (
	// firstFrame is the address of main's frame: far from the heap, and a number that functions hardly come to otherwise. All frames that can be under way find addresses behind it that are words.
	firstFrame = 1_234_567_892
	// gap is how many words behind each frame are nobody's, so that what lies just beyond one is not in another one.
	gap = 64
)

// room tells where the frame of one more call lies.
func (r *run) room() uint32 {
	if len(r.calls) == 0 {
		return firstFrame
	}
	return r.now.base + 4*uint32(len(r.now.frame)+gap)
}

// at tells the word at an address that may be used; at others the run ends.
func (r *run) at(at uint32) *int32 {
	if r.heap.Within(int(at), 1) {
		return &r.blocks[(at-heap.Base)/4]
	}
	if c := r.around(at); c != nil && at%4 == 0 {
		if k := int(at-c.base) / 4; k < len(c.frame) {
			return &c.frame[k]
		}
	}
	trap()
	return nil
}

// around tells the last call whose frame does not begin behind an address, if there is one.
func (r *run) around(at uint32) *call {
	n := sort.Search(len(r.calls), func(k int) bool { return r.calls[k].base > at })
	if n == 0 {
		return nil
	}
	return r.calls[n-1]
}

func (r *run) alloc(words int) int32 {
	at, e := r.heap.Alloc(words)
	if e != api.OK {
		end(api.OutMemory, 0)
	}
	return int32(at)
}

func (r *run) free(at uint32) {
	if r.heap.Free(int(at)) != api.OK {
		trap()
	}
}
