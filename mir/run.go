package mir

import (
	"ferrule/api"
	"ferrule/heap"
)

const (
	panicked  = 101                  // the Code of a run that ends by TePanic
	mostCalls = 4*api.MaxDepth + 200 // under way, quiet ones too
)

// run is functions that are run.
type run struct {
	functions []function
	by        map[string]int // where the function of each name stands

	input   []int // what is left of it
	fuel    int
	steps   int
	printed []int

	calls []*call // that are under way, the last one last
	now   *call   // the last one of these
	loud  int     // how many of these are not Quiet

	heap   *heap.Heap
	blocks [heap.Size / 4]int32 // the words of the heap's blocks, in use or not
	owned  owned
	open   []uint32 // where the blocks are of Boxes whose letting go is under way
}

// ending is what a run ends with in the midst of something.
type ending struct{ kind, code int }

func newRun(items []api.Item, l []api.Mir, input []int, fuel int) *run {
	by, _ := byNames(l)
	r := &run{by: by, input: input, fuel: fuel, heap: heap.New(), owned: newOwned(items)}
	for k := range l {
		r.functions = append(r.functions, newFunction(&l[k]))
	}
	return r
}

// toTheEnd runs main, and tells how the run ended.
func (r *run) toTheEnd() (how ending) {
	defer func() {
		if given := recover(); given != nil {
			how = given.(ending)
		}
	}()
	at, is := r.by["main"]
	if !is || r.functions[at].Params != 0 || r.functions[at].Answers != 0 {
		end(api.OutStuck, 0)
	}
	r.enter(&r.functions[at], nil)
	for len(r.calls) > 0 {
		r.goOn()
	}
	return ending{kind: api.OutExit}
}

// end ends the run, whatever is under way.
func end(kind, code int) { panic(ending{kind, code}) }

// trap ends a run by a step that may not be.
func trap() { end(api.OutTrap, 0) }

// goOn runs the next step, if there is fuel for it.
func (r *run) goOn() {
	if r.steps >= r.fuel {
		end(api.OutFuel, 0)
	}
	r.steps++
	b := &r.now.Blocks[r.now.block]
	if r.now.next == len(b.List) {
		r.term(&b.Term)
		return
	}
	r.now.next++
	r.instr(&b.List[r.now.next-1])
}

func (r *run) instr(in *api.Instr) {
	switch in.Op {
	case api.OpSet:
		r.now.set(in.Dst, r.now.word(in.A))
	case api.OpBin:
		a, b := r.now.both(in.A, in.B)
		v, _ := do(in.Text, a, b)
		r.now.set(in.Dst, v)
	case api.OpLoad:
		r.now.set(in.Dst, *r.at(r.place(&in.P)))
	case api.OpStore:
		*r.at(r.place(&in.P)) = r.now.word(in.A)
	case api.OpCopy:
		r.copy(r.place(&in.P), r.place(&in.Q), in.N)
	case api.OpAddr:
		r.now.set(in.Dst, int32(r.place(&in.P)))
	case api.OpAlloc:
		r.now.set(in.Dst, r.alloc(in.N))
	case api.OpFree:
		r.free(uint32(r.now.word(in.A)))
	case api.OpDrop:
		r.letGo(&in.Type, r.place(&in.P))
	case api.OpGive:
		r.now.give(in.Dst)
	case api.OpTake:
		r.now.take(in.Dst)
	case api.OpClear:
		r.clear(in)
	case api.OpPrint:
		r.print(r.now.word(in.A), in.N == 1)
	case api.OpRead:
		r.now.set(in.Dst, r.read())
	case api.OpCall:
		r.enter(&r.functions[r.by[in.Text]], r.now.all(in.Args))
	}
}

func (r *run) term(t *api.Term) {
	switch t.Kind {
	case api.TeGoto:
		r.now.goTo(t.To)
	case api.TeIf:
		if r.now.word(t.A) != 0 {
			r.now.goTo(t.To)
		} else {
			r.now.goTo(t.Else)
		}
	case api.TeReturn:
		r.leave(r.now.all(t.Args))
	case api.TePanic:
		end(api.OutExit, panicked)
	}
}

// clear lets go what a local holds, if it holds a value.
func (r *run) clear(in *api.Instr) {
	if r.now.holds(in.Dst) {
		r.letGo(&in.Type, r.now.where(in.Dst))
		r.now.take(in.Dst)
	}
}

func (r *run) print(word int32, unsigned bool) {
	if unsigned {
		r.printed = append(r.printed, int(uint32(word)))
	} else {
		r.printed = append(r.printed, int(word))
	}
}

// read takes the next number of the input; behind its end there are only numbers 0.
func (r *run) read() int32 {
	if len(r.input) == 0 {
		return 0
	}
	n := r.input[0]
	r.input = r.input[1:]
	return int32(n)
}
