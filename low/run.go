package low

import (
	"ferrule/api"
	"ferrule/heap"
	"ferrule/mir"
)

const (
	panicked  = 101                  // the Code of a run that ends by TePanic
	mostCalls = 4*api.MaxDepth + 200 // under way, quiet ones too
)

// run is functions that are run.
type run struct {
	l  []api.LowFunc
	by map[string]int // where the function of each name stands

	input   []int // what is left of it
	fuel    int
	steps   int
	printed []int

	calls []*call // that are under way, the last one last
	now   *call   // the last one of these
	loud  int     // how many of these are not Quiet

	heap   *heap.Heap
	blocks [heap.Size / 4]int32 // the words of the heap's blocks, in use or not
}

// ending is what a run ends with in the midst of something.
type ending struct{ kind, code int }

func newRun(l []api.LowFunc, input []int, fuel int) *run {
	by, _ := byNames(l)
	return &run{l: l, by: by, input: input, fuel: fuel, heap: heap.New()}
}

// toTheEnd runs main, and tells how the run ended.
func (r *run) toTheEnd() (how ending) {
	defer func() {
		if given := recover(); given != nil {
			how = given.(ending)
		}
	}()
	at, is := r.by["main"]
	if !is || len(r.l[at].Params) != 0 || r.l[at].Answers != 0 {
		end(api.OutStuck, 0)
	}
	r.enter(&r.l[at], nil)
	for len(r.calls) > 0 {
		r.goOn()
	}
	return ending{kind: api.OutExit}
}

// end ends the run, whatever is under way.
func end(kind, code int) { panic(ending{kind, code}) }

// trap ends a run by a step that may not be.
func trap() { end(api.OutTrap, 0) }

// goOn runs the next step, if there is fuel for it.
func (r *run) goOn() {
	if r.steps >= r.fuel {
		end(api.OutFuel, 0)
	}
	r.steps++
	b := &r.now.Blocks[r.now.block]
	if r.now.next == len(b.List) {
		r.term(&b.Term)
		return
	}
	r.now.next++
	r.instr(&b.List[r.now.next-1])
}

func (r *run) instr(in *api.Low) {
	switch in.Op {
	case api.LoLi:
		r.now.set(in.D, int32(in.N))
	case api.LoMv:
		r.now.set(in.D, r.now.word(in.A))
	case api.LoBin:
		r.now.set(in.D, done(in.Text, r.now.word(in.A), int(r.now.word(in.B))))
	case api.LoImm:
		r.now.set(in.D, done(in.Text, r.now.word(in.A), in.N))
	case api.LoLw:
		r.now.set(in.D, *r.at(r.now.far(in.A, in.N)))
	case api.LoSw:
		*r.at(r.now.far(in.A, in.N)) = r.now.word(in.B)
	case api.LoCall:
		r.enter(&r.l[r.by[in.Text]], r.now.all(in.Args))
	case api.LoPrint:
		r.print(r.now.word(in.A), in.N == 1)
	case api.LoRead:
		r.now.set(in.D, r.read())
	case api.LoAlloc:
		r.now.set(in.D, r.alloc(in.N))
	case api.LoFree:
		r.free(uint32(r.now.word(in.A)))
	}
}

func (r *run) term(t *api.LowTerm) {
	switch t.Kind {
	case api.TeGoto:
		r.now.goTo(t.To)
	case api.TeIf:
		if c, _ := named(t.Text); c.holds(r.now.word(t.A), r.now.word(t.B)) {
			r.now.goTo(t.To)
		} else {
			r.now.goTo(t.Else)
		}
	case api.TeReturn:
		r.leave(r.now.all(t.Args))
	case api.TePanic:
		end(api.OutExit, panicked)
	}
}

// done tells what an operation that Check knows makes of two words.
func done(text string, a int32, b int) int32 {
	v, _ := mir.Do(text, int(a), b)
	return int32(v)
}

func (r *run) print(word int32, unsigned bool) {
	if unsigned {
		r.printed = append(r.printed, int(uint32(word)))
	} else {
		r.printed = append(r.printed, int(word))
	}
}

// read takes the next number of the input; behind its end there are only numbers 0.
func (r *run) read() int32 {
	if len(r.input) == 0 {
		return 0
	}
	n := r.input[0]
	r.input = r.input[1:]
	return int32(n)
}
