package borrow

import "maps"

// What a way may know of a variable.
const (
	given = iota + 1 // it has a value, whatever was ahead of the way
	moved            // it may be moved away
)

// way is one on which trees are run, from where it branched off another one, or a function began.
// What it does not know of a variable is as it was there: so nothing is copied where ways part, and what a loop does in a turn is known whatever is ahead of it.
type way struct {
	from  *way        // nil: a function's first one
	known map[int]int // of variables, by their slots
	ended bool        // it does not go on
}

func firstWay() *way { return &way{known: map[int]int{}} }

// noWay is one that does not count where it comes together with others.
func noWay() *way { return &way{ended: true} }

func (w *way) branch() *way { return &way{from: w, known: map[int]int{}, ended: w.ended} }

// end is where a way does not go on: nothing counts as moved away behind it.
func (w *way) end() { w.known, w.ended = nil, true }

// note keeps what has become of a variable: nothing, on a way that does not go on.
func (w *way) note(slot, what int) {
	if !w.ended {
		w.known[slot] = what
	}
}

func (w *way) isMoved(slot int) bool {
	if w.ended {
		return false
	}
	for ; w != nil; w = w.from {
		if what, is := w.known[slot]; is {
			return what == moved
		}
	}
	return false
}

// follow goes on along a way that branched off this one.
func (w *way) follow(on *way) {
	if on.ended {
		w.end()
	}
	for slot, what := range on.known {
		w.note(slot, what)
	}
}

// since is a way in one piece, from one on that it branched off.
func (w *way) since(head *way) *way {
	if w.ended {
		return noWay()
	}
	whole := head.branch()
	for ; w != head; w = w.from {
		for slot, what := range w.known {
			if _, later := whole.known[slot]; !later {
				whole.known[slot] = what
			}
		}
	}
	return whole
}

// meet is where two ways come together that branched off one: moved away is what is so on either, given what is so on both.
func meet(a, b *way) *way {
	if a.ended {
		return b
	}
	if b.ended {
		return a
	}
	both := &way{from: a.from, known: maps.Clone(a.known)}
	maps.DeleteFunc(both.known, func(slot, what int) bool { return what == given && b.known[slot] != given })
	for slot, what := range b.known {
		if what == moved {
			both.note(slot, moved)
		}
	}
	return both
}

// movedOn is a way with just what may be moved away on it.
func (w *way) movedOn() *way {
	less := &way{from: w.from, known: maps.Clone(w.known)}
	maps.DeleteFunc(less.known, func(slot, what int) bool { return what != moved })
	return less
}
