package build

import "ferrule/api"

// scope builds a block: what its variables hold is let go behind its value.
func (b *builder) scope(x *api.Expr, to target) {
	first := len(b.variables)
	for k := range x.Kids {
		if x.Num == 1 && k == len(x.Kids)-1 {
			b.into(&x.Kids[k], to)
		} else {
			b.into(&x.Kids[k], target{})
		}
	}
	must(x.Num == 1 || to.words == 0 || x.Type.Kind == api.TyNever)
	b.undeclare(first)
}

// condition goes to one of two blocks, as a tree says.
func (b *builder) condition(x *api.Expr, yes, no int) {
	switch {
	case x.Kind == api.ExNot:
		b.condition(&x.Kids[0], no, yes)
	case x.Kind == api.ExBin && x.Text == "&&":
		second := b.block()
		b.condition(&x.Kids[0], second, no)
		b.begin(second)
		b.condition(&x.Kids[1], yes, no)
	case x.Kind == api.ExBin && x.Text == "||":
		second := b.block()
		b.condition(&x.Kids[0], yes, second)
		b.begin(second)
		b.condition(&x.Kids[1], yes, no)
	default:
		b.question(x, yes, no)
	}
}

func (b *builder) question(x *api.Expr, yes, no int) {
	must(x.Type.Kind == api.TyBool || x.Type.Kind == api.TyNever)
	word, holds, compares := b.compared(x)
	switch {
	case !compares:
		b.fork(b.operand(x), yes, no)
	case holds:
		b.fork(word, yes, no)
	default:
		b.fork(word, no, yes)
	}
}

func (b *builder) choice(x *api.Expr, to target) {
	yes, behind := b.block(), b.block()
	no := behind
	if len(x.Kids) > 2 {
		no = b.block()
	}
	b.condition(&x.Kids[0], yes, no)
	b.begin(yes)
	b.into(&x.Kids[1], to)
	b.goTo(behind)
	if len(x.Kids) > 2 {
		b.begin(no)
		b.into(&x.Kids[2], to)
		b.goTo(behind)
	}
	b.begin(behind)
}

func (b *builder) while(x *api.Expr, to target) {
	b.turns(func(body, exit int) {
		b.condition(&x.Kids[0], body, exit)
		b.begin(body)
		b.into(&x.Kids[1], target{})
	})
}

func (b *builder) endless(x *api.Expr, to target) {
	b.turns(func(body, exit int) {
		b.goTo(body)
		b.begin(body)
		b.into(&x.Kids[0], target{})
	})
}

// turns builds a loop, of which one turn is told.
func (b *builder) turns(turn func(body, exit int)) {
	l := loop{len(b.variables), b.block(), b.block()}
	b.loops = append(b.loops, l)
	b.goTo(l.head)
	b.begin(l.head)
	turn(b.block(), l.exit)
	b.goTo(l.head)
	b.begin(l.exit)
	b.loops = b.loops[:len(b.loops)-1]
}

// innermost is the loop that a break or continue is of.
func (b *builder) innermost() loop {
	must(len(b.loops) > 0)
	return b.loops[len(b.loops)-1]
}

func (b *builder) leave(x *api.Expr, to target) {
	l := b.innermost()
	b.clear(l.scope)
	b.away(l.exit)
}

func (b *builder) next(x *api.Expr, to target) {
	l := b.innermost()
	b.clear(l.scope)
	b.away(l.head)
}

// giveBack lets go all that variables hold but the params, which are let go where the function answers.
func (b *builder) giveBack(x *api.Expr, to target) {
	if len(x.Kids) > 0 {
		b.into(&x.Kids[0], b.answer)
	} else {
		must(b.answer.words == 0)
	}
	b.clear(b.f.Params)
	b.away(b.exit)
}

func (b *builder) let(x *api.Expr, to target) {
	kid, t := &x.Kids[0], typeOfLet(x)
	words := b.words(t)
	if words == 1 {
		b.declare(x.Num/2, b.scalarWith(kid), t)
		return
	}
	local := b.room(words)
	b.into(kid, target{api.Place{Local: local}, words})
	b.declare(x.Num/2, local, t)
}

// typeOfLet is the type of a let's variable.
func typeOfLet(x *api.Expr) *api.Type {
	switch {
	case len(x.Ty) > 0:
		return &x.Ty[0]
	case x.Kids[0].Type.Kind == api.TyNever:
		return &api.Type{Kind: api.TyUnit}
	}
	return &x.Kids[0].Type
}

// scalarWith tells a scalar for a new variable, with a value of one word in it: that in which the value was made, if it is nobody else's.
func (b *builder) scalarWith(x *api.Expr) int {
	older := len(b.f.Locals)
	word := b.operand(x)
	if !word.Const && word.N >= older {
		return word.N
	}
	to := b.fresh(1)
	b.put(to, word)
	return to.at.Local
}

// assign builds the value, then the place, lets go what that holds, and brings the value there.
func (b *builder) assign(x *api.Expr, to target) {
	at, value := &x.Kids[0], &x.Kids[1]
	stirred := b.stirs(at)
	if words := b.words(&at.Type); words == 1 {
		word := b.kept(b.operand(value), stirred)
		b.overwrite(at, func(t target) { b.put(t, word) })
	} else {
		from, leave := b.source(value, words, stirred)
		b.overwrite(at, func(t target) { b.copy(t, from) })
		leave()
	}
}

// overwrite lets go what a place holds, if it holds anything, and brings something else there.
func (b *builder) overwrite(x *api.Expr, bring func(to target)) {
	to := target{b.place(x, false), b.words(&x.Type)}
	if x.Kind != api.ExVar {
		b.letGo(&x.Type, to.at)
		bring(to)
		return
	}
	v := b.root(x)
	b.letHeldGo(v)
	bring(to)
	b.give(v)
}

// statement builds a value that is let go. What is not owned is not even brought anywhere, if it is a place's.
func (b *builder) statement(x *api.Expr, to target) {
	kid := &x.Kids[0]
	from, leave := b.source(kid, b.words(&kid.Type), false)
	b.letGo(&kid.Type, from)
	leave()
}
