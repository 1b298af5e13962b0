package build

import (
	"ferrule/api"
	"ferrule/num"
)

// singleByKinds tells what is built of the kinds of trees whose value of one word needs no target.
func (b *builder) singleByKinds() map[int]func(x *api.Expr) api.Operand {
	return map[int]func(x *api.Expr) api.Operand{
		api.ExInt:   b.literal,
		api.ExBool:  b.literal,
		api.ExVar:   b.heldAt,
		api.ExNeg:   b.negative,
		api.ExNot:   b.not,
		api.ExDeref: b.heldAt,
		api.ExBin:   b.binary,
		api.ExCast:  b.cast,
		api.ExField: b.heldAt,
		api.ExIndex: b.heldAt,
	}
}

func (b *builder) literal(x *api.Expr) api.Operand { return number(x.Num) }

func (b *builder) negative(x *api.Expr) api.Operand {
	return b.sign("-", x.Type.Kind, number(0), b.operand(&x.Kids[0]))
}

func (b *builder) not(x *api.Expr) api.Operand {
	kind, word := x.Type.Kind, b.operand(&x.Kids[0])
	switch {
	case kind == api.TyBool:
		return b.bin("xor", word, number(1))
	case num.Int(kind):
		// All bits of a number are turned, but those that its word has beyond its type stay.
		return b.bin("xor", word, number(num.Wrap(kind, -1)))
	}
	must(false)
	return word
}

// cast is a word in another type, if that has not all numbers of its own.
func (b *builder) cast(x *api.Expr) api.Operand {
	must(len(x.Ty) == 1 && num.Int(x.Ty[0].Kind))
	from, to := x.Kids[0].Type.Kind, x.Ty[0].Kind
	must(num.Int(from) || from == api.TyBool)
	word := b.operand(&x.Kids[0])
	if from == api.TyBool || within(from, to) {
		return word
	}
	return b.wrapped(to, word)
}

// within tells whether one type's numbers all are another one's.
func within(from, to int) bool {
	least, most := num.Range(from)
	low, high := num.Range(to)
	return low <= least && most <= high
}

// wrapped is a word modulo two to a type's bits.
func (b *builder) wrapped(kind int, word api.Operand) api.Operand {
	bits, signed := num.Bits(kind)
	switch {
	case bits == wordBits:
		return word
	case signed:
		up := number(wordBits - bits)
		return b.bin("sra", b.bin("sll", word, up), up)
	}
	return b.bin("and", word, number(1<<bits-1))
}

const wordBits = 32

func (b *builder) binary(x *api.Expr) api.Operand {
	if x.Text == "&&" || x.Text == "||" {
		return b.logical(x)
	}
	if word, holds, compares := b.compared(x); compares {
		return b.truth(x.Text, word, holds)
	}
	kind, a, c := b.pair(x)
	return b.sign(x.Text, kind, a, c)
}

// pair builds the kids of a sign, and tells of which type they are.
func (b *builder) pair(x *api.Expr) (kind int, a, c api.Operand) {
	first, second := &x.Kids[0], &x.Kids[1]
	kind = first.Type.Kind
	if kind == api.TyNever {
		kind = second.Type.Kind
	}
	a = b.kept(b.operand(first), b.stirs(second))
	return kind, a, b.operand(second)
}

// question is how a comparison is asked: by which operation, of which one first, and whether it holds if that is not 0.
type question struct {
	op    string
	turns bool
	holds bool
}

func asked(sign string) (question, bool) {
	switch sign {
	case "==":
		return question{"xor", false, false}, true
	case "!=":
		return question{"xor", false, true}, true
	case "<":
		return question{"slt", false, true}, true
	case ">":
		return question{"slt", true, true}, true
	case "<=":
		return question{"slt", true, false}, true
	case ">=":
		return question{"slt", false, false}, true
	}
	return question{}, false
}

// compared builds a comparison: it holds, if the word is not 0, or, if holds is false, if it is 0.
func (b *builder) compared(x *api.Expr) (word api.Operand, holds, compares bool) {
	q, compares := asked(x.Text)
	if !compares || x.Kind != api.ExBin {
		return word, false, false
	}
	kind, a, c := b.pair(x)
	must(num.Int(kind) || kind == api.TyBool)
	if q.turns {
		a, c = c, a
	}
	if q.op == "slt" && kind == api.TyU32 {
		q.op = "sltu"
	}
	return b.bin(q.op, a, c), q.holds, true
}

// truth is a comparison as a bool.
func (b *builder) truth(sign string, word api.Operand, holds bool) api.Operand {
	switch {
	case sign == "==":
		return b.bin("sltu", word, number(1))
	case sign == "!=":
		return b.bin("sltu", number(0), word)
	case holds:
		return word
	}
	return b.bin("xor", word, number(1))
}

// logical is of a sign whose first kid may decide alone.
func (b *builder) logical(x *api.Expr) api.Operand {
	out, second, behind := b.fresh(1), b.block(), b.block()
	b.put(out, b.operand(&x.Kids[0]))
	if x.Text == "&&" {
		b.fork(scalar(out.at.Local), second, behind)
	} else {
		b.fork(scalar(out.at.Local), behind, second)
	}
	b.begin(second)
	b.put(out, b.operand(&x.Kids[1]))
	b.goTo(behind)
	b.begin(behind)
	return scalar(out.at.Local)
}

// bySigns tells what is built of the signs that calculate.
func (b *builder) bySigns() map[string]func(kind int, a, c api.Operand) api.Operand {
	return map[string]func(kind int, a, c api.Operand) api.Operand{
		"+":  b.sum,
		"-":  b.difference,
		"*":  b.product,
		"/":  b.quotient,
		"%":  b.remainder,
		"&":  b.both,
		"|":  b.either,
		"^":  b.unlike,
		"<<": b.leftShift,
		">>": b.rightShift,
	}
}

func (b *builder) sign(text string, kind int, a, c api.Operand) api.Operand {
	build, is := b.signs[text]
	must(is && (num.Int(kind) || kind == api.TyBool && (text == "&" || text == "|" || text == "^")))
	return build(kind, a, c)
}

func (b *builder) both(kind int, a, c api.Operand) api.Operand { return b.bin("and", a, c) }

func (b *builder) either(kind int, a, c api.Operand) api.Operand { return b.bin("or", a, c) }

func (b *builder) unlike(kind int, a, c api.Operand) api.Operand { return b.bin("xor", a, c) }
