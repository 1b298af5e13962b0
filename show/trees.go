package show

import (
	"slices"
	"strconv"

	"ferrule/api"
	"ferrule/ranks"
)

// The ranks of what binds more tightly than any sign between operands.
const (
	rankCast    = ranks.Last + 1
	rankPrefix  = ranks.Last + 2
	rankPrimary = ranks.Last + 3
)

// mostParts is how many trees and types a text can have: each has a byte that is no other's (a statement without ; has the } of what it is).
const mostParts = api.MaxText

// teller tells the forms of what one call is given.
type teller struct {
	write map[int]func(x api.Expr) forms
	parts int // how many were gone over
}

func newTeller() *teller {
	t := &teller{}
	t.write = t.writers()
	return t
}

// goesOn counts a part. Parts that share their memory can be more than any text has, so there is an end to it.
func (t *teller) goesOn() bool {
	t.parts++
	return t.parts <= mostParts
}

// writers tells how each kind of tree is written. What no text has is written too, as far as that goes, but is not parsed to the same again.
func (t *teller) writers() map[int]func(x api.Expr) forms {
	return map[int]func(x api.Expr) forms{
		api.ExInt:     func(x api.Expr) forms { return primary(word(strconv.Itoa(x.Num) + x.Text)) },
		api.ExBool:    func(x api.Expr) forms { return primary(truth(x.Num)) },
		api.ExUnit:    func(x api.Expr) forms { return primary(word("()")) },
		api.ExVar:     func(x api.Expr) forms { return primary(word(x.Text)) },
		api.ExNeg:     func(x api.Expr) forms { return t.prefix(x, word("-")) },
		api.ExNot:     func(x api.Expr) forms { return t.prefix(x, word("!")) },
		api.ExDeref:   func(x api.Expr) forms { return t.prefix(x, word("*")) },
		api.ExBorrow:  func(x api.Expr) forms { return t.prefix(x, word("&"), mut(x.Num == 1)) },
		api.ExBin:     func(x api.Expr) forms { return t.binary(x) },
		api.ExCast:    func(x api.Expr) forms { return t.cast(x) },
		api.ExCall:    func(x api.Expr) forms { return primary(word(x.Text), word("("), t.inside(x.Kids), word(")")) },
		api.ExField:   func(x api.Expr) forms { return t.part(x, word("."), word(x.Text)) },
		api.ExIndex:   func(x api.Expr) forms { return t.part(x, word("["), t.tree(kid(x, 1)).enclosed(), word("]")) },
		api.ExStruct:  func(x api.Expr) forms { return t.structure(x) },
		api.ExInit:    func(x api.Expr) forms { return join(word(x.Text), word(":"), t.tree(kid(x, 0))) },
		api.ExVariant: func(x api.Expr) forms { return primary(word(x.Text), bracketed(x.Kids, t.tree).enclosed()) },
		api.ExArray:   func(x api.Expr) forms { return primary(word("["), t.inside(x.Kids), word("]")) },
		api.ExRepeat:  func(x api.Expr) forms { return t.repeat(x) },
		api.ExBlock:   func(x api.Expr) forms { return t.block(x) },
		api.ExIf:      func(x api.Expr) forms { return t.choice(x) },
		api.ExMatch:   func(x api.Expr) forms { return t.match(x) },
		api.ExArm:     func(x api.Expr) forms { return join(t.written(kid(x, 0)), word("=>"), t.tree(kid(x, 1))) },
		api.PaInt:     func(x api.Expr) forms { return word(strconv.Itoa(x.Num)) },
		api.PaBool:    func(x api.Expr) forms { return truth(x.Num) },
		api.PaAny:     func(x api.Expr) forms { return word("_") },
		api.PaVariant: func(x api.Expr) forms { return join(word(x.Text), bracketed(x.Kids, t.written)) },
		api.PaBind:    func(x api.Expr) forms { return word(x.Text) },
		api.ExWhile:   func(x api.Expr) forms { return join(word("while"), t.asked(kid(x, 0)), t.written(kid(x, 1))) },
		api.ExLoop:    func(x api.Expr) forms { return join(word("loop"), t.written(kid(x, 0))) },
		api.ExBreak:   func(x api.Expr) forms { return word("break;") },
		api.ExNext:    func(x api.Expr) forms { return word("continue;") },
		api.ExReturn:  func(x api.Expr) forms { return join(word("return"), list(x.Kids, t.tree), word(";")) },
		api.ExLet:     func(x api.Expr) forms { return t.let(x) },
		api.ExAssign:  func(x api.Expr) forms { return t.assign(x) },
		api.ExStmt:    func(x api.Expr) forms { return t.statement(x) },
	}
}

// written tells a tree as its kind is written, wherever it stands.
func (t *teller) written(x api.Expr) forms {
	write, ok := t.write[x.Kind]
	if !ok || !t.goesOn() {
		return nil
	}
	return write(x)
}

// tree tells a tree as an operand or more, in brackets too.
func (t *teller) tree(x api.Expr) forms {
	told := t.written(x)
	if isClosed(x) {
		told = told.changed(func(f *form) {
			f.need++
			f.rank, f.closed = rankPrimary, true
		})
	}
	return best(slices.Concat(told, primary(word("("), told.enclosed(), word(")"))))
}

// kid tells one of a tree's kids, or a tree that has no text.
func kid(x api.Expr, i int) api.Expr {
	if i >= len(x.Kids) {
		return api.Expr{}
	}
	return x.Kids[i]
}

func isClosed(x api.Expr) bool {
	return x.Kind == api.ExIf || x.Kind == api.ExMatch || x.Kind == api.ExBlock
}

func truth(n int) forms {
	if n == 1 {
		return word("true")
	}
	return word("false")
}

func mut(is bool) forms {
	if is {
		return word("mut")
	}
	return word("")
}

// primary joins the parts of an operand, which is a level of nesting itself.
func primary(parts ...forms) forms {
	return join(parts...).changed(func(f *form) {
		f.need = max(f.need, 1)
		f.rank = rankPrimary
	})
}

// bound tells a kid so that nothing beside it binds more tightly.
func (t *teller) bound(x api.Expr, i, rank int) forms {
	return t.tree(kid(x, i)).only(func(f form) bool { return f.rank >= rank })
}

// inside tells trees that stand in brackets of an operand, with commas between.
func (t *teller) inside(kids []api.Expr) forms {
	return list(kids, t.tree).enclosed()
}

func (t *teller) prefix(x api.Expr, signs ...forms) forms {
	return join(append(signs, t.bound(x, 0, rankPrefix).deeper())...).ranked(rankPrefix)
}

func (t *teller) binary(x api.Expr) forms {
	rank := ranks.Of(x.Text)
	left := rank
	if rank == ranks.Compare {
		left++
	}
	return join(t.bound(x, 0, left), word(x.Text), t.bound(x, 1, rank+1)).ranked(rank)
}

func (t *teller) cast(x api.Expr) forms {
	return join(t.bound(x, 0, rankCast), word("as"), t.typed(firstType(x.Ty))).ranked(rankCast)
}

// part tells what of a primary is meant.
func (t *teller) part(x api.Expr, which ...forms) forms {
	return join(t.bound(x, 0, rankPrimary), join(which...)).ranked(rankPrimary)
}

func (t *teller) structure(x api.Expr) forms {
	told := primary(word(x.Text), word("{"), list(x.Kids, t.written).enclosed(), word("}"))
	return told.changed(func(f *form) { f.bare = true })
}

func (t *teller) repeat(x api.Expr) forms {
	return primary(word("["), t.tree(kid(x, 0)).enclosed(), word(";"), word(strconv.Itoa(x.Num)), word("]"))
}
