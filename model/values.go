package model

import "ferrule/api"

// The kinds of values.
const (
	nothing = iota // what a place holds from which its value was moved away
	aNumber        // of a bool, too
	aUnit
	aStruct
	aVariant
	anArray
	aBox
	aBorrow
)

// mostParts is how many parts a value has at most, itself among them: a type that has more is none (chapter 5).
const mostParts = 4 * api.MaxWords

// value is a value. A place is where one is held: a *value.
type value struct {
	kind  int
	n     int     // the number; which variant; a Box's class
	parts []value // of a struct, a variant, an array
	to    *value  // the place in which a Box holds its value, or the one that is borrowed
}

func numberOf(n int) value { return value{kind: aNumber, n: n} }

func boolOf(holds bool) value {
	if holds {
		return numberOf(1)
	}
	return numberOf(0)
}

func unitValue() value { return value{kind: aUnit} }

func (v value) number() int {
	must(v.kind == aNumber)
	return v.n
}

// compound is a value of parts, if some type has values of so many.
func compound(kind, n int, parts []value) value {
	v := value{kind: kind, n: n, parts: parts}
	must(v.count() <= mostParts)
	return v
}

// count tells how many parts a value has, itself among them.
func (v value) count() int {
	n := 1
	for k := range v.parts {
		n += v.parts[k].count()
	}
	return n
}

// copied is a value in memory of its own. A Box has one owner alone, and is not copied.
func (v value) copied() value {
	must(v.kind != aBox)
	parts := make([]value, len(v.parts))
	for k := range parts {
		parts[k] = v.parts[k].copied()
	}
	v.parts = parts
	return v
}

// hasPlaces tells whether the parts of values of a kind can be borrowed: they stay where they are, whatever they hold.
func hasPlaces(kind int) bool { return kind == aStruct || kind == anArray }

// take moves the value away that a place holds. Its parts, if they are places, hold nothing either then.
func take(from *value) value {
	v := *from
	switch {
	case v.kind == nothing:
		return value{}
	case !hasPlaces(v.kind):
		*from = value{}
		return v
	}
	from.kind = nothing
	v.parts = make([]value, len(from.parts))
	for k := range v.parts {
		v.parts[k] = take(&from.parts[k])
	}
	return v
}

// put lets a place hold a value; its parts, if there are as many, hold the value's.
func put(to *value, v value) {
	if !hasPlaces(v.kind) || len(to.parts) != len(v.parts) {
		*to = v
		return
	}
	to.kind = v.kind
	for k := range v.parts {
		put(&to.parts[k], v.parts[k])
	}
}

// letGo lets the value go that a place holds, if it holds one. The place holds nothing ahead of what is within it:
// where borrow was not asked, a Box can come to stand within itself.
func (r *run) letGo(held *value) {
	v := *held
	held.kind = nothing
	if v.kind == aBox {
		r.live[v.n]--
		r.letGo(v.to)
	}
	for k := range v.parts {
		r.letGo(&v.parts[k])
	}
}
