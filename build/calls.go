package build

import (
	"ferrule/api"
	"ferrule/num"
)

// call builds arguments, then the call.
func (b *builder) call(x *api.Expr, to target) {
	if build, is := b.own[x.Text]; is {
		build(x, to)
		return
	}
	f, is := b.functions[x.Text]
	must(is && len(f.Params) == len(x.Kids) && b.words(&f.Type) == to.words)
	stirred, disturbed := behind(x.Kids, b.stirs), behind(x.Kids, b.disturbs)
	first := len(b.pins)
	var args []api.Operand
	for k := range x.Kids {
		args = append(args, b.argument(&x.Kids[k], &f.Params[k].Type, stirred[k], disturbed[k])...)
	}
	own := b.pins[first:]
	b.pins = b.pins[:first]
	b.spareAll(f, args...)
	b.callOf(x.Text, to, args...)
	for _, p := range own {
		if p.stead != none {
			b.release(p.stead)
		}
	}
}

// behind tells of each tree of a list, whether one behind it is of some sort.
func behind(list []api.Expr, is func(x *api.Expr) bool) []bool {
	out := make([]bool, len(list))
	for k := len(list) - 2; k >= 0; k-- {
		out[k] = out[k+1] || is(&list[k+1])
	}
	return out
}

// argument builds one of a call, for a param of a type; stirred: those behind it may change variables; disturbed: they may let go what it borrows.
func (b *builder) argument(x *api.Expr, t *api.Type, stirred, disturbed bool) []api.Operand {
	words := b.words(t)
	switch {
	case x.Kind == api.ExBorrow:
		must(isBorrow(t) && b.words(pointedBy(t)) == b.words(&x.Kids[0].Type))
		p := b.place(&x.Kids[0], disturbed)
		at := b.kept(b.address(p), stirred)
		if disturbed {
			b.pin(&x.Kids[0], p, at.N)
		}
		return []api.Operand{at}
	case isBorrow(t):
		must(x.Kind == api.ExVar && isBorrow(&x.Type))
		return []api.Operand{b.operand(x)}
	case words == 1:
		return []api.Operand{b.kept(b.operand(x), stirred)}
	}
	from, leave := b.source(x, words, false)
	defer leave()
	return b.loads(from, words)
}

func isBorrow(t *api.Type) bool { return t.Kind == api.TyRef || t.Kind == api.TyMut }

// callOf builds a call with arguments of so many words; its answer goes into a target.
func (b *builder) callOf(name string, to target, args ...api.Operand) {
	in := api.Instr{Op: api.OpCall, Text: name, Args: args}
	if to.words == 1 && b.isScalar(to.at) {
		in.Dsts = []int{to.at.Local}
		b.add(in)
		return
	}
	for range to.words {
		in.Dsts = append(in.Dsts, b.newLocal(1))
	}
	b.add(in)
	for k, dst := range in.Dsts {
		b.put(to.on(k, 1), scalar(dst))
	}
}

// byNames tells what is built of calls of the language's own functions.
func (b *builder) byNames() map[string]func(x *api.Expr, to target) {
	return map[string]func(x *api.Expr, to target){
		"print":   b.print,
		"read":    b.read,
		"unbox":   b.unbox,
		"replace": b.replace,
	}
}

func (b *builder) print(x *api.Expr, to target) {
	must(len(x.Kids) == 1 && to.words == 0)
	kind := x.Kids[0].Type.Kind
	must(num.Int(kind) || kind == api.TyBool)
	in := api.Instr{Op: api.OpPrint, A: b.operand(&x.Kids[0])}
	if kind == api.TyU32 {
		in.N = 1
	}
	b.add(in)
}

func (b *builder) read(x *api.Expr, to target) {
	must(len(x.Kids) == 0)
	b.made(to, func(dst int) { b.add(api.Instr{Op: api.OpRead, Dst: dst}) })
}

func (b *builder) unbox(x *api.Expr, to target) {
	must(len(x.Kids) == 1 && b.words(pointedBy(&x.Kids[0].Type)) == to.words)
	block := b.inLocal(b.operand(&x.Kids[0]))
	b.copy(to, heldBy(block))
	b.spareBox(scalar(block))
	b.add(api.Instr{Op: api.OpFree, A: scalar(block)})
}

// replace brings what a place holds into the target, and then the new value there. Nothing that is built for that value has the place's variable in it, so that the place stays where it is.
func (b *builder) replace(x *api.Expr, to target) {
	must(len(x.Kids) == 2)
	value := &x.Kids[1]
	at, words := b.replaced(&x.Kids[0], b.stirs(value))
	must(words == to.words)
	if to.words == 1 {
		word := b.operand(value)
		b.copy(to, at)
		b.put(target{at, 1}, word)
		return
	}
	from, leave := b.source(value, to.words, false)
	b.copy(to, at)
	b.copy(target{at, to.words}, from)
	leave()
}

// replaced is the place that an argument borrows, and how many words it has.
func (b *builder) replaced(x *api.Expr, stirred bool) (api.Place, int) {
	if x.Kind == api.ExBorrow {
		return b.place(&x.Kids[0], stirred), b.words(&x.Kids[0].Type)
	}
	p := b.place(x, stirred)
	p.Steps = append(p.Steps, api.Step{Kind: api.StHeld})
	return p, b.words(pointedBy(&x.Type))
}
