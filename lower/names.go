package lower

import (
	"ferrule/api"
	"ferrule/layout"
)

// meaning is what follows from an operation's name.
type meaning struct {
	inside string // the operation that has its second operand in itself; "": there is none
	bits   bool   // that operand is how many bits to shift by
	minus  bool   // it is the negative of that operand
	turns  bool   // it does not matter which operand is the first one
	asks   string // the comparison that holds where its word is not 0; "": there is none
}

func byNames() map[string]meaning {
	return map[string]meaning{
		"add":  {inside: "add", turns: true},
		"sub":  {inside: "add", minus: true},
		"and":  {inside: "and", turns: true},
		"or":   {inside: "or", turns: true},
		"xor":  {inside: "xor", turns: true, asks: "ne"},
		"slt":  {inside: "slt", asks: "lt"},
		"sltu": {inside: "sltu", asks: "ltu"},
		"sll":  {inside: "sll", bits: true},
		"srl":  {inside: "srl", bits: true},
		"sra":  {inside: "sra", bits: true},
	}
}

// number tells the number that an instruction has in itself instead of a second operand; false: it can't.
func (how meaning) number(b api.Operand) (int, bool) {
	if !b.Const || how.inside == "" {
		return 0, false
	}
	n := word(b.N)
	if how.minus {
		n = -n
	}
	return n, layout.Fits(n, how.bits)
}

// word is a number as one.
func word(n int) int { return int(int32(n)) }
