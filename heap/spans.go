package heap

// span is where a class's blocks lie: the words of each, how many there are, and the address of the first.
type span struct{ size, blocks, start int }

const classes = 4

var spans = [classes]span{
	{size: 4, blocks: 64, start: Base},
	{size: 16, blocks: 32, start: Base + 4*(64*4)},
	{size: 64, blocks: 16, start: Base + 4*(64*4+32*16)},
	{size: 128, blocks: 8, start: Base + 4*(64*4+32*16+16*64)},
}

// bytes tells how many a block has.
func (s span) bytes() int {
	return 4 * s.size
}

// end tells the address just behind the last block.
func (s span) end() int {
	return s.start + s.blocks*s.bytes()
}

// first tells the least class of which something holds.
func first(holds func(span) bool) (int, bool) {
	for class, s := range spans {
		if holds(s) {
			return class, true
		}
	}
	return 0, false
}

// place is an address by its block: of which class, which one of it, and how many bytes behind its beginning.
type place struct{ class, block, behind int }

// find tells the place of an address, if it lies in a block.
func find(at int) (place, bool) {
	class, ok := first(func(s span) bool { return s.start <= at && at < s.end() })
	if !ok {
		return place{}, false
	}
	far, bytes := at-spans[class].start, spans[class].bytes()
	return place{class: class, block: far / bytes, behind: far % bytes}, true
}
