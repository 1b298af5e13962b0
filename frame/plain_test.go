package frame_test

import (
	"ferrule/api"
	"ferrule/heap"
	"ferrule/low"
	"ferrule/mir"
)

// This runs functions in the low form, too: addresses in frames are no numbers but frames and bytes in them.
// Where an answer hangs on where frames lie, which no word of the chapters tells, it gives up.

// room is a frame, or a block of the heap.
type room struct {
	words []datum
	gone  bool
}

// datum is a word: a number, or an address so many bytes behind a frame's beginning.
type datum struct {
	num int
	in  *room
	far int
}

// plainEnd ends a run; unclear: it hangs on where frames lie.
type plainEnd struct {
	out     api.Outcome
	unclear bool
}

type plainBlock struct {
	room
	used bool
	at   int
}

type plain struct {
	l     []api.LowFunc
	input []int
	fuel  int
	steps int
	print []int
	all   int
	loud  int
	heap  []*plainBlock
	met   map[string]int // how often something was come to
}

// plainCall is the registers of a call, and its frame.
type plainCall struct {
	f     api.LowFunc
	regs  map[int]datum
	frame *room
}

func plainRun(l []api.LowFunc, input []int, fuel int, met map[string]int) (end plainEnd, steps int) {
	p := &plain{l: l, input: input, fuel: fuel, met: met}
	start := heap.Base
	for _, words := range []int{4, 16, 64, 128} {
		_, _, blocks, _ := heap.Class(words)
		for range blocks {
			p.heap = append(p.heap, &plainBlock{room: room{words: make([]datum, words)}, at: start})
			start += 4 * words
		}
	}
	defer func() {
		end = recover().(plainEnd)
		end.out.Print = p.print
		steps = p.steps
	}()
	p.call(p.find("main"), nil)
	panic(plainEnd{out: exit()})
}

func (p *plain) end(kind, code int) { panic(plainEnd{out: outcome(kind, code)}) }
func (p *plain) unclear()           { panic(plainEnd{unclear: true}) }

func (p *plain) find(name string) api.LowFunc {
	for _, f := range p.l {
		if f.Name == name {
			return f
		}
	}
	panic("no " + name)
}

func number(n int) datum { return datum{num: int(int32(n))} }

func (p *plain) call(f api.LowFunc, args []datum) []datum {
	if p.all == 4*48+200 || !f.Quiet && p.loud == 48 {
		p.end(api.OutDepth, 0)
	}
	p.all++
	if !f.Quiet {
		p.loud++
	}
	c := &plainCall{f: f, regs: map[int]datum{}, frame: &room{words: make([]datum, f.Frame)}}
	for k, reg := range f.Params {
		c.regs[reg] = args[k]
	}
	answers := p.body(c)
	c.frame.gone = true
	p.all--
	if !f.Quiet {
		p.loud--
	}
	return answers
}

func (p *plain) step() {
	if p.fuel <= p.steps {
		p.end(api.OutFuel, 0)
	}
	p.steps++
}

func (p *plain) body(c *plainCall) []datum {
	for block := 0; ; {
		for _, in := range c.f.Blocks[block].List {
			p.step()
			p.instr(c, in)
		}
		p.step()
		term := c.f.Blocks[block].Term
		switch term.Kind {
		case api.TePanic:
			p.end(api.OutExit, 101)
		case api.TeReturn:
			return c.list(term.Args)
		case api.TeGoto:
			block = term.To
		case api.TeIf:
			block = term.Else
			if p.asks(c.word(term.A), term.Text, c.word(term.B)) {
				block = term.To
			}
		}
	}
}

func (c *plainCall) word(reg int) datum {
	switch reg {
	case -1:
		return datum{}
	case -2:
		return datum{in: c.frame}
	}
	return c.regs[reg]
}

func (c *plainCall) list(regs []int) []datum {
	var out []datum
	for _, reg := range regs {
		out = append(out, c.word(reg))
	}
	return out
}

// asks compares words; of addresses only those in one frame can be told alike or unlike.
func (p *plain) asks(a datum, text string, b datum) bool {
	if a.in != nil && a.in == b.in && (text == "eq" || text == "ne") {
		return (a.far == b.far) == (text == "eq")
	}
	holds, _ := low.Holds(text, p.number(a), p.number(b))
	return holds
}

// number tells a word that is no address in a frame.
func (p *plain) number(d datum) int {
	if d.in != nil {
		p.unclear()
	}
	return d.num
}

// does tells what an operation makes of two words; of addresses in frames only sums with numbers can be told, and differences within one frame.
func (p *plain) does(a datum, op string, b datum) datum {
	switch {
	case op == "add" && a.in != nil:
		return datum{in: a.in, far: number(a.far + p.number(b)).num}
	case op == "add" && b.in != nil:
		return datum{in: b.in, far: number(b.far + p.number(a)).num}
	case op == "sub" && a.in != nil && a.in == b.in:
		return number(a.far - b.far)
	case op == "sub" && a.in != nil:
		return datum{in: a.in, far: number(a.far - p.number(b)).num}
	}
	n, _ := mir.Do(op, p.number(a), p.number(b))
	return number(n)
}

// use tells the word that stands at an address.
func (p *plain) use(d datum) *datum {
	if d.in == nil {
		for _, b := range p.heap {
			if b.used && d.num%4 == 0 && d.num >= b.at && d.num < b.at+4*len(b.words) {
				p.met["a block's word"]++
				return &b.words[(d.num-b.at)/4]
			}
		}
		p.end(api.OutTrap, 0)
	}
	switch {
	case d.far%4 != 0:
		p.end(api.OutTrap, 0)
	case d.in.gone || d.far < -200 || d.far >= 4*len(d.in.words)+200:
		p.unclear()
	case d.far < 0 || d.far >= 4*len(d.in.words):
		p.end(api.OutTrap, 0)
	}
	p.met["a frame's word"]++
	return &d.in.words[d.far/4]
}

func (p *plain) instr(c *plainCall, in api.Low) {
	switch in.Op {
	case api.LoLi:
		c.regs[in.D] = number(in.N)
	case api.LoMv:
		c.regs[in.D] = c.word(in.A)
	case api.LoBin:
		c.regs[in.D] = p.does(c.word(in.A), in.Text, c.word(in.B))
	case api.LoImm:
		c.regs[in.D] = p.does(c.word(in.A), in.Text, datum{num: in.N})
	case api.LoLw:
		address := p.does(c.word(in.A), "add", datum{num: in.N})
		p.notes(c, address, "a load in another frame")
		c.regs[in.D] = *p.use(address)
	case api.LoSw:
		address := p.does(c.word(in.A), "add", datum{num: in.N})
		p.notes(c, address, "a store in another frame")
		*p.use(address) = c.word(in.B)
	case api.LoCall:
		for k, d := range p.call(p.find(in.Text), c.list(in.Args)) {
			c.regs[in.Dsts[k]] = d
		}
		p.met["a call that came back"]++
	case api.LoPrint:
		n := p.number(c.word(in.A))
		if in.N == 1 && n < 0 {
			n += 1 << 32
		}
		p.print = append(p.print, n)
	case api.LoRead:
		c.regs[in.D] = datum{}
		if len(p.input) > 0 {
			c.regs[in.D], p.input = number(p.input[0]), p.input[1:]
		}
	case api.LoAlloc:
		c.regs[in.D] = p.alloc(in.N)
	case api.LoFree:
		p.free(c.word(in.A))
	}
}

func (p *plain) notes(c *plainCall, d datum, what string) {
	if d.in != nil && d.in != c.frame {
		p.met[what]++
	}
}

func (p *plain) alloc(words int) datum {
	_, size, _, _ := heap.Class(words)
	for _, b := range p.heap {
		if len(b.words) == size && !b.used {
			b.used = true
			return datum{num: b.at}
		}
	}
	p.end(api.OutMemory, 0)
	return datum{}
}

func (p *plain) free(d datum) {
	for _, b := range p.heap {
		if d.in == nil && b.used && b.at == d.num {
			b.used = false
			p.met["a block let go"]++
			return
		}
	}
	p.end(api.OutTrap, 0)
}
