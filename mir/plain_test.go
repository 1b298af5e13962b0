package mir

import (
	"ferrule/api"
	"ferrule/types"
)

// This is the chapter's words as a machine of its own, made as plainly as can be: locals are rooms, and their addresses are no numbers but rooms and places in them.
// Where an answer hangs on where locals lie, which no word of the chapter tells, it gives up.

// room is a local, or a block of the heap.
type room struct {
	words []datum
	gone  bool
}

// datum is a word: a number, or the address of a word of a local.
type datum struct {
	num int
	in  *room
	far int
}

// plainEnd ends a run; unclear: it hangs on where locals lie.
type plainEnd struct {
	out     api.Outcome
	unclear bool
}

type plainBlock struct {
	room
	used bool
	at   int
	size int
}

type plain struct {
	items []api.Item
	l     []api.Mir
	input []int
	fuel  int
	steps int
	print []int
	all   int
	loud  int
	heap  []*plainBlock
}

// plainFrame is the locals of a call, and which of them hold values.
type plainFrame struct {
	rooms []*room
	holds map[int]bool
}

func plainRun(items []api.Item, l []api.Mir, input []int, fuel int) (end plainEnd, steps int) {
	p := &plain{items: items, l: l, input: input, fuel: fuel}
	start := 1 << 18
	for _, c := range []struct{ size, blocks int }{{4, 64}, {16, 32}, {64, 16}, {128, 8}} {
		for range c.blocks {
			p.heap = append(p.heap, &plainBlock{room: room{words: make([]datum, c.size)}, at: start, size: c.size})
			start += 4 * c.size
		}
	}
	defer func() {
		end = recover().(plainEnd)
		end.out.Print = p.print
		steps = p.steps
	}()
	p.call(p.find("main"), nil)
	panic(plainEnd{out: exit()})
}

func (p *plain) end(kind, code int) { panic(plainEnd{out: outcome(kind, code)}) }
func (p *plain) unclear()           { panic(plainEnd{unclear: true}) }

func (p *plain) find(name string) api.Mir {
	for _, f := range p.l {
		if f.Name == name {
			return f
		}
	}
	panic("no " + name)
}

func (p *plain) call(f api.Mir, args []datum) []datum {
	if p.all == 4*48+200 || !f.Quiet && p.loud == 48 {
		p.end(api.OutDepth, 0)
	}
	p.all++
	if !f.Quiet {
		p.loud++
	}
	frame := &plainFrame{holds: map[int]bool{}}
	for k, words := range f.Locals {
		r := &room{words: make([]datum, words)}
		for at := range r.words {
			if k < f.Params {
				r.words[at], args = args[0], args[1:]
			}
		}
		frame.rooms = append(frame.rooms, r)
	}
	answers := p.body(f, frame)
	for _, r := range frame.rooms {
		r.gone = true
	}
	p.all--
	if !f.Quiet {
		p.loud--
	}
	return answers
}

func (p *plain) step() {
	if p.fuel <= p.steps {
		p.end(api.OutFuel, 0)
	}
	p.steps++
}

func (p *plain) body(f api.Mir, frame *plainFrame) []datum {
	for block := 0; ; {
		for _, in := range f.Blocks[block].List {
			p.step()
			p.instr(frame, in)
		}
		p.step()
		term := f.Blocks[block].Term
		switch term.Kind {
		case api.TePanic:
			p.end(api.OutExit, 101)
		case api.TeReturn:
			var out []datum
			for _, o := range term.Args {
				out = append(out, frame.word(o))
			}
			return out
		case api.TeGoto:
			block = term.To
		case api.TeIf:
			block = term.To
			if p.number(frame.word(term.A)) == 0 {
				block = term.Else
			}
		}
	}
}

func (fr *plainFrame) word(o api.Operand) datum {
	if o.Const {
		return datum{num: wordOf(whole(o.N))}
	}
	return fr.rooms[o.N].words[0]
}

// number tells a word that is no address of a local.
func (p *plain) number(d datum) int {
	if d.in != nil {
		p.unclear()
	}
	return d.num
}

// near goes on by words.
func near(d datum, words int) datum {
	if d.in == nil {
		return datum{num: wordOf(whole(d.num + 4*words))}
	}
	d.far = wordOf(whole(4*(d.far+words))) / 4
	return d
}

// use tells the word that stands at an address.
func (p *plain) use(d datum) *datum {
	if d.in == nil {
		for _, b := range p.heap {
			if b.used && d.num%4 == 0 && d.num >= b.at && d.num < b.at+4*b.size {
				return &b.words[(d.num-b.at)/4]
			}
		}
		p.end(api.OutTrap, 0)
	}
	if d.in.gone || d.far < -gap || d.far >= len(d.in.words)+gap {
		p.unclear()
	}
	if d.far < 0 || d.far >= len(d.in.words) {
		p.end(api.OutTrap, 0)
	}
	return &d.in.words[d.far]
}

func (p *plain) place(frame *plainFrame, x api.Place) datum {
	d := datum{in: frame.rooms[x.Local]}
	for _, s := range x.Steps {
		switch s.Kind {
		case api.StAdd:
			d = near(d, s.N)
		case api.StIndex:
			d = near(d, p.number(frame.word(v(s.N)))*s.Size)
		case api.StHeld:
			d = *p.use(d)
		}
	}
	return d
}

func (p *plain) instr(frame *plainFrame, in api.Instr) {
	set := func(d datum) { frame.rooms[in.Dst].words[0] = d }
	switch in.Op {
	case api.OpSet:
		set(frame.word(in.A))
	case api.OpBin:
		set(datum{num: belongs(in.Text, p.number(frame.word(in.A)), p.number(frame.word(in.B)))})
	case api.OpLoad:
		set(*p.use(p.place(frame, in.P)))
	case api.OpStore:
		*p.use(p.place(frame, in.P)) = frame.word(in.A)
	case api.OpCopy:
		to, from, words := p.place(frame, in.P), p.place(frame, in.Q), []datum{}
		for k := range in.N {
			words = append(words, *p.use(near(from, k)))
		}
		for k := range in.N {
			*p.use(near(to, k)) = words[k]
		}
	case api.OpAddr:
		set(p.place(frame, in.P))
	case api.OpAlloc:
		set(datum{num: p.alloc(in.N)})
	case api.OpFree:
		p.free(frame.word(in.A))
	case api.OpDrop:
		p.drop(in.Type, p.place(frame, in.P), 0)
	case api.OpGive, api.OpTake:
		frame.holds[in.Dst] = in.Op == api.OpGive
	case api.OpClear:
		if frame.holds[in.Dst] {
			p.drop(in.Type, datum{in: frame.rooms[in.Dst]}, 0)
		}
		frame.holds[in.Dst] = false
	default:
		p.outer(frame, in)
	}
}

func (p *plain) outer(frame *plainFrame, in api.Instr) {
	switch in.Op {
	case api.OpPrint:
		n := p.number(frame.word(in.A))
		if in.N == 1 && n < 0 {
			n += 1 << 32
		}
		p.print = append(p.print, n)
	case api.OpRead:
		n := 0
		if len(p.input) > 0 {
			n, p.input = p.input[0], p.input[1:]
		}
		frame.rooms[in.Dst].words[0] = datum{num: wordOf(whole(n))}
	case api.OpCall:
		var args []datum
		for _, o := range in.Args {
			args = append(args, frame.word(o))
		}
		for k, d := range p.call(p.find(in.Text), args) {
			frame.rooms[in.Dsts[k]].words[0] = d
		}
	}
}

func (p *plain) alloc(words int) int {
	size := 4
	for _, s := range []int{16, 64, 128} {
		if words > size {
			size = s
		}
	}
	for _, b := range p.heap {
		if b.size == size && !b.used {
			b.used = true
			return b.at
		}
	}
	p.end(api.OutMemory, 0)
	return 0
}

func (p *plain) free(d datum) {
	for _, b := range p.heap {
		if d.in == nil && b.used && b.at == d.num {
			b.used = false
			return
		}
	}
	p.end(api.OutTrap, 0)
}

// drop lets a value go just as it is said; what has no end is unclear.
func (p *plain) drop(t api.Type, d datum, deep int) {
	if types.Copy(p.items, t) {
		return
	}
	if deep > 5000 {
		p.unclear()
	}
	inOrder := func(list []api.Type, d datum) {
		for _, part := range list {
			p.drop(part, d, deep+1)
			words, _ := types.Words(p.items, part)
			d = near(d, words)
		}
	}
	switch t.Kind {
	case api.TyBox:
		to := *p.use(d)
		p.drop(t.Elem[0], to, deep+1)
		p.free(to)
	case api.TyArray:
		for range t.N {
			inOrder(t.Elem[:1], d)
			words, _ := types.Words(p.items, t.Elem[0])
			d = near(d, words)
		}
	case api.TyNamed:
		if k := types.Find(p.items, api.ItStruct, t.Name); k >= 0 {
			var list []api.Type
			for _, f := range p.items[k].Params {
				list = append(list, f.Type)
			}
			inOrder(list, d)
			return
		}
		of := p.items[types.Find(p.items, api.ItEnum, t.Name)].Variants
		if which := p.number(*p.use(d)); which >= 0 && which < len(of) {
			inOrder(of[which].Types, near(d, 1))
		}
	}
}
