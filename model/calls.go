package model

import (
	"ferrule/api"
	"ferrule/num"
)

// call is one of a function that is under way.
type call struct {
	trees int            // how many were under way when its body was begun
	slots map[int]*value // its variables
}

func newCall(trees int) call { return call{trees, map[int]*value{}} }

// here is the innermost call.
func (r *run) here() *call { return &r.calls[len(r.calls)-1] }

// builtin is a function of the language's own: how many arguments it has, and what it makes of them.
type builtin struct {
	args int
	does func(r *run, args []value) value
}

func builtins() map[string]builtin {
	return map[string]builtin{
		"print":   {1, (*run).print},
		"read":    {0, (*run).read},
		"unbox":   {1, (*run).unbox},
		"replace": {2, (*run).replace},
	}
}

// anyCall runs arguments, then what is called with them.
func (r *run) anyCall(f *frame) {
	own, is := r.builtins[f.x.Text]
	if !is {
		r.functionCall(f)
		return
	}
	must(len(f.x.Kids) == own.args)
	if f.next < own.args {
		r.argument(f)
		return
	}
	r.give(own.does(r, r.given(f)))
}

// argument begins the next one: a value, or the place of a borrow.
func (r *run) argument(f *frame) {
	arg := &f.x.Kids[f.next]
	f.next++
	if arg.Kind != api.ExBorrow {
		r.begin(arg)
		return
	}
	r.pass(arg)
	r.beginPlace(&arg.Kids[0])
}

func (r *run) functionCall(f *frame) {
	at, is := r.functions[f.x.Text]
	must(is && len(f.x.Kids) == len(r.items[at].Params))
	switch args := len(f.x.Kids); {
	case f.next < args:
		r.argument(f)
	case f.next == args:
		f.next++
		r.enter(&r.items[at].Body, r.given(f))
	default:
		r.calls = r.calls[:len(r.calls)-1]
		r.give(r.last())
	}
}

// enter begins a function's body, with its arguments as variables.
func (r *run) enter(body *api.Expr, args []value) {
	if len(r.calls) >= api.MaxDepth {
		end(api.OutDepth, 0)
	}
	r.calls = append(r.calls, newCall(len(r.trees)))
	for slot, arg := range args {
		r.declare(slot, arg)
	}
	r.begin(body)
}

func (r *run) print(args []value) value {
	r.printed = append(r.printed, args[0].number())
	return unitValue()
}

func (r *run) read(args []value) value {
	if len(r.input) == 0 {
		return numberOf(0)
	}
	next := r.input[0]
	r.input = r.input[1:]
	return numberOf(num.Wrap(api.TyI32, next))
}

func (r *run) unbox(args []value) value {
	must(args[0].kind == aBox && args[0].box.held.kind != nothing)
	r.free(args[0].box)
	return args[0].box.held.apart()
}

func (r *run) replace(args []value) value {
	must(args[0].kind == aBorrow && args[0].to.kind != nothing)
	held := take(args[0].to)
	put(args[0].to, args[1])
	return held
}
