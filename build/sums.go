package build

import (
	"ferrule/api"
	"ferrule/num"
)

// inRange is a word behind the check that it is a number of a type that has fewer bits than words: what such numbers make has its word, but may be none of them.
func (b *builder) inRange(kind int, word api.Operand) (out api.Operand) {
	bits, signed := num.Bits(kind)
	from0 := word
	if signed {
		from0 = b.bin("add", word, number(1<<(bits-1)))
	}
	b.onlyIf(b.bin("sltu", from0, number(1<<bits)), func() { out = word })
	return out
}

// isNarrow tells whether a type has fewer bits than words.
func isNarrow(kind int) bool {
	bits, _ := num.Bits(kind)
	return bits < wordBits
}

func (b *builder) sum(kind int, a, c api.Operand) (out api.Operand) {
	all := b.bin("add", a, c)
	switch {
	case isNarrow(kind):
		return b.inRange(kind, all)
	case kind == api.TyU32:
		b.onlyIfNot(b.bin("sltu", all, a), func() { out = all })
	case a.Const:
		b.onlyIfNot(b.beyond(c, all, a.N), func() { out = all })
	case c.Const:
		b.onlyIfNot(b.beyond(a, all, c.N), func() { out = all })
	default:
		// It is beyond the range, if its sign is neither one's.
		sign := b.bin("and", b.bin("xor", a, all), b.bin("xor", c, all))
		b.onlyIfNot(b.bin("slt", sign, number(0)), func() { out = all })
	}
	return out
}

// beyond is not 0, if what should be a word and a number together left the range: it lies on the wrong side of the word then.
func (b *builder) beyond(word, together api.Operand, n int) api.Operand {
	if n < 0 {
		return b.bin("slt", word, together)
	}
	return b.bin("slt", together, word)
}

func (b *builder) difference(kind int, a, c api.Operand) (out api.Operand) {
	_, signed := num.Bits(kind)
	if least, _ := num.Range(kind); signed && a == number(0) {
		b.onlyIf(b.bin("xor", c, number(least)), func() { out = b.bin("sub", a, c) })
		return out
	}
	all := b.bin("sub", a, c)
	switch {
	case isNarrow(kind):
		return b.inRange(kind, all)
	case kind == api.TyU32:
		b.onlyIfNot(b.bin("sltu", a, c), func() { out = all })
	case c.Const:
		b.onlyIfNot(b.beyond(all, a, c.N), func() { out = all })
	default:
		// It is beyond the range, if both have other signs, and it has not the first one's.
		sign := b.bin("and", b.bin("xor", a, c), b.bin("xor", a, all))
		b.onlyIfNot(b.bin("slt", sign, number(0)), func() { out = all })
	}
	return out
}

func (b *builder) product(kind int, a, c api.Operand) (out api.Operand) {
	low := b.bin("mul", a, c)
	switch {
	case isNarrow(kind):
		return b.inRange(kind, low)
	case kind == api.TyU32:
		b.onlyIfNot(b.bin("mulhu", a, c), func() { out = low })
	default:
		// What is above the word has its sign throughout.
		above := b.bin("xor", b.bin("mulh", a, c), b.bin("sra", low, number(wordBits-1)))
		b.onlyIfNot(above, func() { out = low })
	}
	return out
}

func (b *builder) quotient(kind int, a, c api.Operand) api.Operand {
	return b.divided(kind, "div", "divu", a, c)
}

func (b *builder) remainder(kind int, a, c api.Operand) api.Operand {
	return b.divided(kind, "rem", "remu", a, c)
}

// divided builds one of two operations, by whether the type has a sign, behind the checks of a division.
func (b *builder) divided(kind int, signedOp, unsignedOp string, a, c api.Operand) (out api.Operand) {
	_, signed := num.Bits(kind)
	b.onlyIf(c, func() {
		if !signed {
			out = b.bin(unsignedOp, a, c)
			return
		}
		b.onlyIf(b.divides(kind, a, c), func() { out = b.bin(signedOp, a, c) })
	})
	return out
}

// divides is 0, if a division would leave a type's range: of its least number by -1.
func (b *builder) divides(kind int, a, c api.Operand) api.Operand {
	least, _ := num.Range(kind)
	if a.Const && a != number(least) || c.Const && c != number(-1) {
		return number(1)
	}
	return b.bin("or", b.bin("xor", a, number(least)), b.bin("xor", c, number(-1)))
}

func (b *builder) leftShift(kind int, a, c api.Operand) (out api.Operand) {
	b.onlyIf(b.shifts(kind, c), func() { out = b.wrapped(kind, b.bin("sll", a, c)) })
	return out
}

func (b *builder) rightShift(kind int, a, c api.Operand) (out api.Operand) {
	op := "srl"
	if _, signed := num.Bits(kind); signed {
		op = "sra"
	}
	b.onlyIf(b.shifts(kind, c), func() { out = b.bin(op, a, c) })
	return out
}

// shifts is 0, if a number may not be shifted by so many bits: below 0 is far above, if it is taken from 0 on.
func (b *builder) shifts(kind int, by api.Operand) api.Operand {
	bits, _ := num.Bits(kind)
	return b.bin("sltu", by, number(bits))
}
