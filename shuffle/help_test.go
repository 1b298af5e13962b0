package shuffle

import (
	"fmt"
	"math/rand"
	"slices"
	"testing"

	"ferrule/api"
)

// moves makes a list of Tos and Froms, one behind the other.
func moves(pairs ...int) []Move {
	var l []Move
	for i := 0; i+1 < len(pairs); i += 2 {
		l = append(l, Move{pairs[i], pairs[i+1]})
	}
	return l
}

// short is a list's text, cut where it is long.
func short(l []Move) string {
	if len(l) > 40 {
		return fmt.Sprintf("%v .. (%d moves)", l[:40], len(l))
	}
	return fmt.Sprint(l)
}

// mixed is a list in another order, made by chance.
func mixed(r *rand.Rand, l []Move) []Move {
	l = slices.Clone(l)
	r.Shuffle(len(l), func(i, j int) { l[i], l[j] = l[j], l[i] })
	return l
}

// places is what places hold: each one that is not in it holds its own number, which no other one does.
type places map[int]int

func (p places) at(place int) int {
	if held, is := p[place]; is {
		return held
	}
	return place
}

// after is what places hold behind moves that are done one behind the other.
func after(told []Move) places {
	p := places{}
	for _, m := range told {
		p[m.To] = p.at(m.From)
	}
	return p
}

// movers counts the moves with a To that is not the From.
func movers(l []Move) int {
	n := 0
	for _, m := range l {
		if m.To != m.From {
			n++
		}
	}
	return n
}

// circles counts the circles: each is gone round from each of its places, and counted at the least of them.
func circles(l []Move) int {
	from := map[int]int{}
	for _, m := range l {
		if m.To != m.From {
			from[m.To] = m.From
		}
	}
	n := 0
	for first := range from {
		place, least := first, first
		for range len(l) {
			next, is := from[place]
			if !is {
				break
			}
			place, least = next, min(least, next)
			if place == first {
				break
			}
		}
		if place == first && least == first {
			n++
		}
	}
	return n
}

// uses tells whether a move has a place.
func uses(l []Move, place int) bool {
	return slices.ContainsFunc(l, func(m Move) bool { return m.To == place || m.From == place })
}

// held holds what Line tells of a list that is formed as it must be, and of which the circles are known, against the chapter's words.
func held(t *testing.T, l []Move, spare, circles int) []Move {
	t.Helper()
	told, e := Line(l, spare)
	if e != api.OK {
		t.Fatalf("%s, spare %d: error %d", short(l), spare, int(e))
	}
	end := after(told)
	want := places{}
	for _, m := range l {
		want[m.To] = m.From
	}
	for _, list := range [][]Move{l, told} {
		for _, m := range list {
			for _, place := range []int{m.To, m.From} {
				if place != spare && end.at(place) != want.at(place) {
					t.Fatalf("%s, spare %d: %d holds what %d held, not %d, after %s", short(l), spare, place, end.at(place), want.at(place), short(told))
				}
			}
		}
	}
	if most := movers(l) + circles; len(told) > most {
		t.Fatalf("%s, spare %d: %d moves, where %d are enough: %s", short(l), spare, len(told), most, short(told))
	}
	if uses(told, spare) != (circles > 0) {
		t.Fatalf("%s, spare %d: %d circles, %s", short(l), spare, circles, short(told))
	}
	return told
}

// byWords holds what Line tells of a list that is formed as it must be against the chapter's words.
func byWords(t *testing.T, l []Move, spare int) []Move {
	t.Helper()
	return held(t, l, spare, circles(l))
}

// refused asks for ErrForm, and that nothing else is told.
func refused(t *testing.T, l []Move, spare int) {
	t.Helper()
	if told, e := Line(l, spare); e != api.ErrForm || len(told) != 0 {
		t.Fatalf("%s, spare %d: %s, error %d", short(l), spare, short(told), int(e))
	}
}

// byChance makes moves that are formed as they must be, among so many places from first on, with at most so many Tos.
func byChance(r *rand.Rand, first, many, tos int) []Move {
	var l []Move
	for _, place := range r.Perm(many)[:r.Intn(min(tos, many)+1)] {
		from := r.Intn(many)
		if r.Intn(8) == 0 {
			from = place
		}
		l = append(l, Move{first + place, first + from})
	}
	if r.Intn(2) == 0 {
		closeSome(r, l)
	}
	return l
}

// closeSome lets some of the moves read one another's Tos, so that there are circles of many places.
func closeSome(r *rand.Rand, l []Move) {
	for begin := 0; begin < len(l); {
		end := min(len(l), begin+1+r.Intn(6))
		for i := begin; i < end && r.Intn(10) > 0; i++ {
			l[i].From = l[begin+(i-begin+1)%(end-begin)].To
		}
		begin = end
	}
	r.Shuffle(len(l), func(i, j int) { l[i], l[j] = l[j], l[i] })
}
