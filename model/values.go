package model

import (
	"slices"

	"ferrule/api"
)

// The kinds of values.
const (
	nothing = iota // what a place holds from which its value was moved away
	aNumber        // of a bool, too
	aUnit
	aStruct
	aVariant
	anArray
	aBox
	aBorrow
)

// mostParts is how many parts a value has at most, itself among them: a type that has more is none (chapter 5).
const mostParts = 4 * api.MaxWords

// value is a value. A place is where one is held: a *value.
type value struct {
	kind  int
	n     int     // the number; which variant
	parts []value // of a struct, a variant, an array
	box   *boxed  // which Box it is
	to    *value  // the place that is borrowed
}

// boxed is a Box. It is one, wherever a value tells of it.
type boxed struct {
	class int
	gone  bool // it was let go
	pass  int  // which letGo came to it last
	held  value
}

func numberOf(n int) value { return value{kind: aNumber, n: n} }

func boolOf(holds bool) value {
	if holds {
		return numberOf(1)
	}
	return numberOf(0)
}

func unitValue() value { return value{kind: aUnit} }

func (v value) number() int {
	must(v.kind == aNumber)
	return v.n
}

// compound is a value of parts, if some type has values of so many.
func compound(kind, n int, parts []value) value {
	v := value{kind: kind, n: n, parts: parts}
	must(v.count() <= mostParts)
	return v
}

// count tells how many parts a value has, itself among them.
func (v value) count() int {
	n := 1
	for k := range v.parts {
		n += v.parts[k].count()
	}
	return n
}

// apart is a value in memory of its own; its Boxes are the same.
func (v value) apart() value {
	parts := make([]value, len(v.parts))
	for k := range parts {
		parts[k] = v.parts[k].apart()
	}
	v.parts = parts
	return v
}

// copied is a copy of a value. A Box has one owner alone, and is not copied.
func (v value) copied() value {
	must(!v.owns())
	return v.apart()
}

// owns tells whether there is a Box in a value.
func (v value) owns() bool { return v.kind == aBox || slices.ContainsFunc(v.parts, value.owns) }

// hasPlaces tells whether the parts of values of a kind can be borrowed: they stay where they are, whatever they hold.
func hasPlaces(kind int) bool { return kind == aStruct || kind == anArray }

// take moves the value away that a place holds. Its parts, if they are places, hold nothing either then.
func take(from *value) value {
	v := *from
	switch {
	case v.kind == nothing:
		return value{}
	case !hasPlaces(v.kind):
		*from = value{}
		return v
	}
	from.kind = nothing
	v.parts = make([]value, len(from.parts))
	for k := range v.parts {
		v.parts[k] = take(&from.parts[k])
	}
	return v
}

// put lets a place hold a value; its parts, if there are as many, hold the value's.
func put(to *value, v value) {
	if !hasPlaces(v.kind) || len(to.parts) != len(v.parts) {
		*to = v
		return
	}
	to.kind = v.kind
	for k := range v.parts {
		put(&to.parts[k], v.parts[k])
	}
}

// letGo lets a value go. No place is changed by it: what was borrowed of a Box holds its value still.
// A Box is come to once, as it can stand within itself; the list is for Boxes in Boxes, of which those that are gone can be many.
func (r *run) letGo(v value) {
	r.passes++
	for left := []value{v}; len(left) > 0; {
		last := left[len(left)-1]
		left = append(left[:len(left)-1], last.parts...)
		if last.kind == aBox && last.box.pass != r.passes {
			last.box.pass = r.passes
			r.free(last.box)
			left = append(left, last.box.held)
		}
	}
}

// free makes a Box one less that is live, once: where an index lets one go that is borrowed, it can be told to go again.
func (r *run) free(b *boxed) {
	if !b.gone {
		b.gone = true
		r.live[b.class]--
	}
}
