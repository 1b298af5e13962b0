package frame

import (
	"slices"

	"ferrule/api"
	"ferrule/regalloc"
)

const wordBytes = 4

// shape is what a call of a function has of the stack: the words of its Frame, lowest, as their addresses are told by bytes behind where they begin; then the slots, the registers that it keeps, and where it goes back to.
type shape struct {
	at   []int // of each register: where it lies, as regalloc tells it
	kept []int // those of regalloc.Kept that something lies in

	// Where the parts of it begin, and all of it ends, in bytes.

	slotsAt, savedAt, backAt, size int
}

func shapeOf(f api.LowFunc) (shape, api.Errno) {
	at, slots, e := regalloc.Assign(f)
	if e != api.OK {
		return shape{}, e
	}
	s := shape{at: at, kept: keptOf(at)}
	s.slotsAt = wordBytes * f.Frame
	s.savedAt = s.slotsAt + wordBytes*slots
	s.backAt = s.savedAt + wordBytes*len(s.kept)
	s.size = s.backAt + wordBytes
	if s.size > api.MaxFrame {
		return shape{}, api.ErrFrame
	}
	return s, api.OK
}

// keptOf tells those of regalloc.Kept that registers lie in.
func keptOf(at []int) []int {
	var used [32]int
	for _, place := range at {
		if place > 0 {
			used[place]++
		}
	}
	isUnused := func(place int) bool { return used[place] == 0 }
	return slices.DeleteFunc(regalloc.Kept(), isUnused)
}

// slot tells how many bytes behind the stack's pointer a place below 0 is.
func (s shape) slot(place int) int { return s.slotsAt + wordBytes*(-1-place) }
