// Package num is layer 1: see shared/doc/01-num.md.
package num

import "ferrule/api"

// shape is how a type's numbers are written: in how many bits, and whether one of them is a sign.
// The zero shape is that of kinds whose values are no integers.
type shape struct {
	bits   int
	signed bool
}

// shapes holds the shape of each kind, by its number.
var shapes = [api.TyU32 + 1]shape{
	api.TyI8:  {8, true},
	api.TyI16: {16, true},
	api.TyI32: {32, true},
	api.TyU8:  {8, false},
	api.TyU16: {16, false},
	api.TyU32: {32, false},
}

func shapeOf(kind int) shape {
	if kind < 0 || kind >= len(shapes) {
		return shape{}
	}
	return shapes[kind]
}

// Int tells whether a kind of type is one of integers.
func Int(kind int) bool { return shapeOf(kind) != shape{} }

// Bits tells how many bits it has, and whether it has a sign.
func Bits(kind int) (bits int, signed bool) {
	s := shapeOf(kind)
	return s.bits, s.signed
}

// Range tells its least and greatest number.
func Range(kind int) (least, most int) {
	if !Int(kind) {
		return 0, 0
	}
	bits, signed := Bits(kind)
	if signed {
		half := 1 << (bits - 1)
		return -half, half - 1
	}
	return 0, 1<<bits - 1
}

// Wrap tells a number in a type, modulo two to its bits.
func Wrap(kind, v int) int {
	if !Int(kind) {
		return 0
	}
	bits, _ := Bits(kind)
	_, most := Range(kind)
	low := v & (1<<bits - 1)
	if low > most {
		return low - 1<<bits
	}
	return low
}

// The faults of arithmetic.
const (
	Fine     = 0
	Overflow = 1
	Divides  = 2 // by nothing
	NoSign   = 3 // there is no such operation
)

// Do tells what a sign makes of two numbers of a type (of << and >>: the second one of any), and its fault.
func Do(sign string, kind, a, b int) (int, int) {
	if !Int(kind) || !within(kind, a) {
		return 0, NoSign
	}
	switch sign {
	case "<<":
		return shiftLeft(kind, a, b)
	case ">>":
		return shiftRight(kind, a, b)
	}
	if !within(kind, b) {
		return 0, NoSign
	}
	switch sign {
	case "+":
		return fit(kind, a+b)
	case "-":
		return fit(kind, a-b)
	case "*":
		return multiply(kind, a, b)
	case "/":
		return divide(kind, a, b)
	case "%":
		return remainder(kind, a, b)
	case "&":
		return a & b, Fine
	case "|":
		return a | b, Fine
	case "^":
		return a ^ b, Fine
	}
	return 0, NoSign
}

func within(kind, v int) bool {
	least, most := Range(kind)
	return least <= v && v <= most
}

func fit(kind, v int) (int, int) {
	if !within(kind, v) {
		return 0, Overflow
	}
	return v, Fine
}

func multiply(kind, a, b int) (int, int) {
	_, most := Range(kind)
	// Two numbers of 32 bits without a sign can have a product beyond int, so it is asked for ahead of being made.
	if a > 0 && b > 0 && a > most/b {
		return 0, Overflow
	}
	return fit(kind, a*b)
}

func divide(kind, a, b int) (int, int) {
	if b == 0 {
		return 0, Divides
	}
	return fit(kind, a/b)
}

func remainder(kind, a, b int) (int, int) {
	// A remainder always fits; it is the quotient that may not.
	if _, fault := divide(kind, a, b); fault != Fine {
		return 0, fault
	}
	return a % b, Fine
}

func shiftLeft(kind, a, by int) (int, int) {
	if !shifts(kind, by) {
		return 0, Overflow
	}
	return Wrap(kind, a<<by), Fine
}

func shiftRight(kind, a, by int) (int, int) {
	if !shifts(kind, by) {
		return 0, Overflow
	}
	return a >> by, Fine
}

// shifts tells whether a type's numbers can be shifted by so many bits.
func shifts(kind, by int) bool {
	bits, _ := Bits(kind)
	return 0 <= by && by < bits
}

// Holds tells whether a comparison holds.
func Holds(sign string, a, b int) (bool, bool) {
	switch sign {
	case "==":
		return a == b, true
	case "!=":
		return a != b, true
	case "<":
		return a < b, true
	case "<=":
		return a <= b, true
	case ">":
		return a > b, true
	case ">=":
		return a >= b, true
	}
	return false, false
}
