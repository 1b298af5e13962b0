package frame

import (
	"strconv"

	"ferrule/api"
)

const mainName = "main"

// The machine's registers.
const (
	zero   = 0
	back   = 1 // where a call goes back to
	stack  = 2
	quiet  = 4 // counts the calls under way that are Quiet: nobody else has a use for it
	first  = 5 // these three are for what is needed at once
	second = 6
	spare  = 7
	passed = 10 // the first one of those that pass words; what an ecall is given and answers, too
	which  = 17 // which ecall it is
	loud   = 27 // counts the calls under way that are not Quiet
)

// The numbers of ecalls.
const (
	callPrint         = 1
	callPrintFromZero = 2
	callRead          = 3
	callAlloc         = 4
	callFree          = 5
	callExit          = 6
	callDepth         = 7
)

const (
	panicked  = 101                  // the Code of a run that ends by TePanic
	mostCalls = 4*api.MaxDepth + 200 // under way, quiet ones too
)

// The labels that are no function's.
const (
	exitLabel  = "exit"
	panicLabel = "panic"
	deepLabel  = "deep"
)

// program is functions that are written as lines, each behind the ones that were.
type program struct {
	l     []api.LowFunc
	names map[string]int // where the function of each name stands
	asks  map[string]question
	mixed bool // some function that is Quiet calls one that is not
	add   func(line api.Asm)
}

func newProgram(l []api.LowFunc, add func(line api.Asm)) *program {
	p := &program{l: l, names: map[string]int{}, asks: questions(), add: add}
	for k := range l {
		p.names[l[k].Name] = k
	}
	for k := range l {
		if l[k].Quiet {
			eachCall(&l[k], func(name string) { p.mixed = p.mixed || !l[p.names[name]].Quiet })
		}
	}
	return p
}

// eachCall goes over the names of the functions that one calls.
func eachCall(f *api.LowFunc, do func(name string)) {
	for _, b := range f.Blocks {
		for at := range b.List {
			if b.List[at].Op == api.LoCall {
				do(b.List[at].Text)
			}
		}
	}
}

// beginAndEnd writes what calls main, and how runs end. As main may call itself, its calls are as those of all others.
func (p *program) beginAndEnd() {
	p.jump(back, labelOf(p.names[mainName]))
	p.number(passed, 0)
	p.here(exitLabel)
	p.ecall(callExit)
	p.here(panicLabel)
	p.number(passed, panicked)
	p.jump(zero, exitLabel)
	p.here(deepLabel)
	p.ecall(callDepth)
}

// labelOf is a function's label: names may be anything, and as long as can be.
func labelOf(k int) string { return "f" + strconv.Itoa(k) }
