package build

import (
	"slices"

	"ferrule/api"
	"ferrule/mir"
	"ferrule/num"
)

// builder builds one function.
type builder struct {
	*program
	trees  map[int]func(x *api.Expr, to target)  // what is built of each kind of tree
	single map[int]func(x *api.Expr) api.Operand // likewise, of kinds whose value of one word needs no target
	signs  map[string]func(kind int, a, c api.Operand) api.Operand
	own    map[string]func(x *api.Expr, to target) // what is built of calls of the language's own functions

	f      api.Mir
	now    int   // the block that instructions are added to
	panics int   // the block that panics; 0: there is none yet
	held   []int // of each local: 1, if it is a variable's
	idle   []int // the locals of several words that nothing lies in now

	variables []variable  // in scope, the last one last
	slots     map[int]int // which of these has a slot
	loops     []loop      // around what is built, the innermost one last
	answer    target
	exit      int // the block that answers

	stirring map[*api.Expr]int // the trees that may change a variable, or what it points to
	pins     []pin             // of arguments that wait for their calls
	watched  bool              // there may be pins: which variables hold a value is kept
}

// variable is one that is in scope.
type variable struct {
	slot, local, words int
	typ                *api.Type
	owns               bool
	holds              int // the scalar that is 1 where it holds a value, and 0 where not; none, if that is not kept
}

// loop is one that is being built: how many variables are older, and where it goes on, and ends.
type loop struct{ scope, head, exit int }

func (p *program) function(it *api.Item) api.Mir {
	b := &builder{program: p, slots: map[int]int{}, stirring: map[*api.Expr]int{}}
	b.trees, b.single, b.signs, b.own = b.byKinds(), b.singleByKinds(), b.bySigns(), b.byNames()
	b.f = api.Mir{Name: it.Name, Params: len(it.Params), Answers: b.words(&it.Type)}
	b.mark(&it.Body, true)
	b.begin(b.block())
	for k := range it.Params {
		b.newLocal(b.words(&it.Params[k].Type))
	}
	for k := range it.Params {
		b.declare(k, k, &it.Params[k].Type)
	}
	b.answer = b.fresh(b.f.Answers)
	b.exit = b.block()
	b.into(&it.Body, b.answer)
	b.goTo(b.exit)
	b.begin(b.exit)
	b.clear(0)
	b.end(api.Term{Kind: api.TeReturn, Args: b.loads(b.answer.at, b.f.Answers)})
	return b.f
}

// byKinds tells what is built of each kind of tree. (An ExBorrow is built as an argument, an ExInit in its struct, an ExArm in its match.)
func (b *builder) byKinds() map[int]func(x *api.Expr, to target) {
	return map[int]func(x *api.Expr, to target){
		api.ExInt:     b.word,
		api.ExBool:    b.word,
		api.ExUnit:    b.unit,
		api.ExVar:     b.copied,
		api.ExNeg:     b.word,
		api.ExNot:     b.word,
		api.ExDeref:   b.copied,
		api.ExBin:     b.word,
		api.ExCast:    b.word,
		api.ExCall:    b.call,
		api.ExField:   b.copied,
		api.ExIndex:   b.copied,
		api.ExStruct:  b.structure,
		api.ExVariant: b.variant,
		api.ExArray:   b.array,
		api.ExRepeat:  b.repeat,
		api.ExBlock:   b.scope,
		api.ExIf:      b.choice,
		api.ExMatch:   b.match,
		api.ExWhile:   b.while,
		api.ExLoop:    b.endless,
		api.ExBreak:   b.leave,
		api.ExNext:    b.next,
		api.ExReturn:  b.giveBack,
		api.ExLet:     b.let,
		api.ExAssign:  b.assign,
		api.ExStmt:    b.statement,
	}
}

// into builds a tree's value into a target.
func (b *builder) into(x *api.Expr, to target) {
	must(x.Type.Kind == api.TyNever || b.words(&x.Type) == to.words)
	build, is := b.trees[x.Kind]
	must(is)
	build(x, to)
}

// operand builds a tree's value of one word. Of what does not go on, it may be anything.
func (b *builder) operand(x *api.Expr) api.Operand {
	if x.Type.Kind == api.TyNever {
		b.into(x, target{})
		return number(0)
	}
	must(b.words(&x.Type) == 1)
	if build, is := b.single[x.Kind]; is {
		return build(x)
	}
	to := b.fresh(1)
	b.into(x, to)
	return scalar(to.at.Local)
}

// word puts the value of a tree into a target that is always of one word.
func (b *builder) word(x *api.Expr, to target) {
	must(x.Type.Kind != api.TyNever)
	b.put(to, b.operand(x))
}

func (b *builder) unit(x *api.Expr, to target) {}

// mark notes which trees may change a variable, or what it points to, or let it go; value: the tree stands for a value, not for a place.
func (b *builder) mark(x *api.Expr, value bool) bool {
	stirs := false
	switch x.Kind {
	case api.ExAssign:
		stirs = true
	case api.ExBorrow:
		stirs = x.Num == 1
	case api.ExVar:
		stirs = value && (x.Type.Kind == api.TyMut || b.owns(&x.Type))
	}
	for k := range x.Kids {
		if b.mark(&x.Kids[k], k > 0 || !hasPlace(x.Kind)) {
			stirs = true
		}
		b.watched = b.watched || x.Kind == api.ExCall && b.disturbs(&x.Kids[k])
	}
	if stirs {
		b.stirring[x] = 1
	}
	return stirs
}

// hasPlace tells whether the first kid of trees of a kind is a place.
func hasPlace(kind int) bool {
	switch kind {
	case api.ExField, api.ExIndex, api.ExDeref, api.ExBorrow, api.ExAssign:
		return true
	}
	return false
}

func (b *builder) stirs(x *api.Expr) bool { return b.stirring[x] == 1 }

// kept is an operand that stays as it is while something is built: a variable's word is taken into a local of its own, if that may change it.
func (b *builder) kept(o api.Operand, stirred bool) api.Operand {
	if o.Const || b.held[o.N] == 0 || !stirred {
		return o
	}
	own := b.fresh(1)
	b.put(own, o)
	return scalar(own.at.Local)
}

// number is an operand: a number of any integer type, as a word.
func number(n int) api.Operand { return api.Operand{Const: true, N: num.Wrap(api.TyI32, n)} }

// scalar is an operand: a local of one word.
func scalar(n int) api.Operand { return api.Operand{N: n} }

// bin is what an operation makes of two operands; of two numbers it is known.
func (b *builder) bin(op string, a, c api.Operand) api.Operand {
	if a.Const && c.Const {
		v, _ := mir.Do(op, a.N, c.N)
		return number(v)
	}
	dst := b.newLocal(1)
	b.add(api.Instr{Op: api.OpBin, Dst: dst, Text: op, A: a, B: c})
	return scalar(dst)
}

// add adds an instruction, in memory of its own.
func (b *builder) add(in api.Instr) {
	in.P.Steps, in.Q.Steps = slices.Clone(in.P.Steps), slices.Clone(in.Q.Steps)
	in.Args, in.Dsts = slices.Clone(in.Args), slices.Clone(in.Dsts)
	in.Type = cloned(in.Type)
	list := &b.f.Blocks[b.now].List
	*list = append(*list, in)
}

// block makes a new one.
func (b *builder) block() int {
	b.f.Blocks = append(b.f.Blocks, api.Block{})
	return len(b.f.Blocks) - 1
}

// begin lets instructions be added to a block.
func (b *builder) begin(block int) { b.now = block }

// end ends the block that instructions are added to.
func (b *builder) end(t api.Term) { b.f.Blocks[b.now].Term = t }

func (b *builder) goTo(block int) { b.end(api.Term{Kind: api.TeGoto, To: block}) }

// away goes to another block; what is built next is come to by nothing.
func (b *builder) away(block int) {
	b.goTo(block)
	b.begin(b.block())
}

// fork goes to one of two blocks: is the word not 0?
func (b *builder) fork(word api.Operand, yes, no int) {
	switch {
	case !word.Const:
		b.end(api.Term{Kind: api.TeIf, A: word, To: yes, Else: no})
	case word.N != 0:
		b.goTo(yes)
	default:
		b.goTo(no)
	}
}

// panicking tells the block that panics.
func (b *builder) panicking() int {
	if b.panics == 0 {
		b.panics = b.block()
		b.f.Blocks[b.panics].Term = api.Term{Kind: api.TePanic}
	}
	return b.panics
}

// onlyIf builds what comes behind a check: it is run if a word is not 0, else the run panics.
func (b *builder) onlyIf(word api.Operand, then func()) {
	if !word.Const || word.N == 0 {
		behind := b.block()
		b.fork(word, behind, b.panicking())
		b.begin(behind)
	}
	then()
}

// onlyIfNot is onlyIf of a word that is 0.
func (b *builder) onlyIfNot(word api.Operand, then func()) {
	if !word.Const || word.N != 0 {
		behind := b.block()
		b.fork(word, b.panicking(), behind)
		b.begin(behind)
	}
	then()
}
