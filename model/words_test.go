package model

import (
	"slices"

	"ferrule/api"
	"ferrule/heap"
	"ferrule/num"
	"ferrule/types"
)

// machine runs programs that nothing is against in another way than the package: values are lists of words, by their types, variables and Boxes lie in one memory, borrows and Boxes are addresses in it, and trees are run by calls within one another.
type machine struct {
	items   []api.Item
	input   []int
	fuel    int
	steps   int
	printed []int
	memory  []int
	live    [4]int
	freed   map[int]bool // the addresses of Boxes that were let go

	calls  int
	slots  map[int]int // where each variable of the function lies
	owned  []owned     // the variables in scope, the last one last
	answer []int
}

// owned is a variable: where it lies, and its type.
type owned struct {
	at  int
	typ api.Type
	has bool // it was not moved away
}

// How a tree is left.
const (
	on = iota
	broken
	continued
	returned
)

type stopped struct{ kind, code int }

// byWords is what a program's run comes to.
func byWords(l []api.Item, input []int, fuel int) (r result) {
	m := &machine{items: l, input: input, fuel: fuel, slots: map[int]int{}, freed: map[int]bool{}, calls: 1}
	defer func() {
		how, is := recover().(stopped)
		if !is {
			how = stopped{api.OutExit, 0}
		}
		r = result{how.kind, how.code, m.steps, m.printed}
	}()
	m.value(&l[types.Find(l, api.ItFunc, "main")].Body)
	panic(stopped{api.OutExit, 0})
}

func (m *machine) tick() {
	if m.steps >= m.fuel {
		panic(stopped{api.OutFuel, 0})
	}
	m.steps++
}

func (m *machine) words(t api.Type) int {
	n, _ := types.Words(m.items, t)
	return n
}

// lay puts words into new memory.
func (m *machine) lay(words []int) int {
	at := len(m.memory)
	m.memory = append(m.memory, words...)
	return at
}

// drop lets the words of a value go.
func (m *machine) drop(t api.Type, words []int) { m.dropAll(t, words, map[int]bool{}) }

// dropAll is drop of what was not come to yet by it: a Box can hold itself.
func (m *machine) dropAll(t api.Type, words []int, come map[int]bool) {
	switch t.Kind {
	case api.TyArray:
		n := m.words(t.Elem[0])
		for k := range t.N {
			m.dropAll(t.Elem[0], words[k*n:], come)
		}
	case api.TyBox:
		if at := words[0]; !come[at] {
			come[at] = true
			m.free(t, at)
			m.dropAll(t.Elem[0], m.memory[at:], come)
		}
	case api.TyNamed:
		var parts []api.Type
		if at := types.Find(m.items, api.ItStruct, t.Name); at >= 0 {
			for _, f := range m.items[at].Params {
				parts = append(parts, f.Type)
			}
		} else {
			parts = m.items[types.Find(m.items, api.ItEnum, t.Name)].Variants[words[0]].Types
			words = words[1:]
		}
		for _, part := range parts {
			m.dropAll(part, words, come)
			words = words[m.words(part):]
		}
	}
}

// free lets the block of a Box go, once.
func (m *machine) free(t api.Type, at int) {
	if !m.freed[at] {
		m.freed[at] = true
		class, _, _, _ := heap.Class(m.words(t.Elem[0]))
		m.live[class]--
	}
}

// own brings a variable into scope.
func (m *machine) own(slot int, t api.Type, words []int) {
	m.slots[slot] = m.lay(words)
	m.owned = append(m.owned, owned{m.slots[slot], t, true})
}

// disown ends the scopes of all variables but the first n.
func (m *machine) disown(n int) {
	for k := len(m.owned) - 1; k >= n; k-- {
		if m.owned[k].has {
			m.drop(m.owned[k].typ, m.memory[m.owned[k].at:])
		}
	}
	m.owned = m.owned[:n]
}

// has notes whether the variable that lies somewhere holds a value; false: it lies there, but did not.
func (m *machine) has(at int, has bool) bool {
	for k := range m.owned {
		if m.owned[k].at == at && m.owned[k].typ.Kind != api.TyUnit {
			had := m.owned[k].has
			m.owned[k].has = has
			return had
		}
	}
	return true
}

// place runs a place, and tells its address.
func (m *machine) place(x *api.Expr) (int, int) {
	m.tick()
	if x.Kind == api.ExVar {
		return m.slots[x.Num], on
	}
	kid := &x.Kids[0]
	at, how := m.place(kid)
	if how != on {
		return 0, how
	}
	switch x.Kind {
	case api.ExField:
		_, _, ahead, _ := types.Field(m.items, kid.Type, x.Text)
		return at + ahead, on
	case api.ExDeref:
		return m.memory[at], on
	}
	index, how := m.value(&x.Kids[1])
	if how != on {
		return 0, how
	}
	if index[0] < 0 || index[0] >= kid.Type.N {
		panic(stopped{api.OutExit, 101})
	}
	return at + index[0]*m.words(x.Type), on
}

// all runs trees one behind the other, and tells their words in one list.
func (m *machine) all(list []api.Expr) ([]int, int) {
	var words []int
	for k := range list {
		more, how := m.value(&list[k])
		if how != on {
			return nil, how
		}
		words = append(words, more...)
	}
	return words, on
}

// value runs a tree, and tells its words, or how it is left.
func (m *machine) value(x *api.Expr) ([]int, int) {
	switch x.Kind {
	case api.ExVar, api.ExField, api.ExIndex, api.ExDeref:
		at, how := m.place(x)
		if how != on {
			return nil, how
		}
		if x.Kind == api.ExVar && !types.Copy(m.items, x.Type) && x.Type.Kind != api.TyMut {
			m.has(at, false)
		}
		return slices.Clone(m.memory[at : at+m.words(x.Type)]), on
	}
	m.tick()
	switch x.Kind {
	case api.ExBlock, api.ExIf, api.ExMatch, api.ExWhile, api.ExLoop, api.ExBreak, api.ExNext, api.ExReturn:
		return m.control(x)
	case api.ExLet, api.ExAssign, api.ExStmt:
		return m.statement(x)
	case api.ExCall:
		return m.call(x)
	case api.ExInt, api.ExBool:
		return []int{x.Num}, on
	case api.ExBin:
		if x.Text == "&&" || x.Text == "||" {
			first, how := m.value(&x.Kids[0])
			if how != on || first[0] == map[string]int{"&&": 0, "||": 1}[x.Text] {
				return first, how
			}
			return m.value(&x.Kids[1])
		}
	case api.ExStruct:
		return m.structure(x)
	}
	words, how := m.all(x.Kids)
	if how != on {
		return nil, how
	}
	return m.of(x, words), on
}

// of is what a tree makes of its kids' words.
func (m *machine) of(x *api.Expr, words []int) []int {
	switch x.Kind {
	case api.ExNeg:
		return m.sum("-", x.Type.Kind, 0, words[0])
	case api.ExNot:
		if x.Type.Kind == api.TyBool {
			return []int{1 - words[0]}
		}
		return []int{num.Wrap(x.Type.Kind, -1-words[0])}
	case api.ExCast:
		return []int{num.Wrap(x.Type.Kind, words[0])}
	case api.ExBin:
		if holds, is := num.Holds(x.Text, words[0], words[1]); is {
			return []int{map[bool]int{true: 1}[holds]}
		}
		return m.sum(x.Text, x.Kids[0].Type.Kind, words[0], words[1])
	case api.ExRepeat:
		return slices.Repeat(words, x.Num)
	case api.ExVariant:
		if x.Text != "Box::new" {
			return append(append([]int{x.Num}, words...), make([]int, m.words(x.Type)-1-len(words))...)
		}
		class, _, blocks, _ := heap.Class(m.words(x.Type.Elem[0]))
		if m.live[class] == blocks {
			panic(stopped{api.OutMemory, 0})
		}
		m.live[class]++
		return []int{m.lay(words)}
	}
	return words
}

func (m *machine) sum(sign string, kind, a, b int) []int {
	if kind == api.TyBool {
		return []int{map[string]int{"&": a & b, "|": a | b, "^": a ^ b}[sign]}
	}
	n, fault := num.Do(sign, kind, a, b)
	if fault != num.Fine {
		panic(stopped{api.OutExit, 101})
	}
	return []int{n}
}

func (m *machine) structure(x *api.Expr) ([]int, int) {
	words := make([]int, m.words(x.Type))
	for k := range x.Kids {
		m.tick()
		more, how := m.all(x.Kids[k].Kids)
		if how != on {
			return nil, how
		}
		_, _, ahead, _ := types.Field(m.items, x.Type, x.Kids[k].Text)
		copy(words[ahead:], more)
	}
	return words, on
}

func (m *machine) statement(x *api.Expr) ([]int, int) {
	words, how := m.value(&x.Kids[len(x.Kids)-1])
	if how != on {
		return nil, how
	}
	switch x.Kind {
	case api.ExLet:
		t := x.Kids[0].Type
		m.own(x.Num/2, t, words)
	case api.ExStmt:
		m.drop(x.Kids[0].Type, words)
	case api.ExAssign:
		at, how := m.place(&x.Kids[0])
		if how != on {
			return nil, how
		}
		if x.Kids[0].Kind != api.ExVar || m.has(at, true) {
			m.drop(x.Kids[0].Type, m.memory[at:])
		}
		copy(m.memory[at:], words)
	}
	return nil, on
}

func (m *machine) control(x *api.Expr) ([]int, int) {
	scope := len(m.owned)
	defer func() {
		if x.Kind == api.ExBlock || x.Kind == api.ExMatch {
			m.disown(scope)
		}
	}()
	switch x.Kind {
	case api.ExBreak:
		return nil, broken
	case api.ExNext:
		return nil, continued
	case api.ExReturn:
		words, how := m.all(x.Kids)
		if how == on {
			m.answer, how = words, returned
		}
		return nil, how
	case api.ExWhile, api.ExLoop:
		return nil, m.turns(x)
	case api.ExBlock:
		var words []int
		for k := range x.Kids {
			var how int
			if words, how = m.value(&x.Kids[k]); how != on {
				return nil, how
			}
		}
		return words, on
	}
	words, how := m.value(&x.Kids[0])
	if how != on {
		return nil, how
	}
	if x.Kind == api.ExMatch {
		return m.arm(x, words)
	}
	if words[0] == 1 {
		return m.value(&x.Kids[1])
	}
	return m.all(x.Kids[2:])
}

func (m *machine) turns(x *api.Expr) int {
	for {
		for k := range x.Kids {
			words, how := m.value(&x.Kids[k])
			switch {
			case how == broken || how == on && len(x.Kids) == 2 && k == 0 && words[0] == 0:
				return on
			case how == returned:
				return how
			}
			if how == continued {
				break
			}
		}
	}
}

func (m *machine) arm(x *api.Expr, words []int) ([]int, int) {
	for k := range x.Kids[1:] {
		pattern := &x.Kids[1+k].Kids[0]
		if pattern.Kind != api.PaAny && pattern.Num != words[0] {
			continue
		}
		if pattern.Kind == api.PaAny {
			m.drop(pattern.Type, words)
		}
		part := 1
		for _, bind := range pattern.Kids {
			n := m.words(bind.Type)
			if bind.Text == "_" {
				m.drop(bind.Type, words[part:])
			} else {
				m.own(bind.Num, bind.Type, words[part:part+n])
			}
			part += n
		}
		return m.value(&x.Kids[1+k].Kids[1])
	}
	panic(stopped{api.OutStuck, 0})
}

func (m *machine) call(x *api.Expr) ([]int, int) {
	var args [][]int
	for k := range x.Kids {
		arg := &x.Kids[k]
		if arg.Kind != api.ExBorrow {
			words, how := m.value(arg)
			if how != on {
				return nil, how
			}
			args = append(args, words)
			continue
		}
		m.tick()
		at, how := m.place(&arg.Kids[0])
		if how != on {
			return nil, how
		}
		args = append(args, []int{at})
	}
	switch x.Text {
	case "print":
		m.printed = append(m.printed, args[0][0])
		return nil, on
	case "read":
		if len(m.input) == 0 {
			return []int{0}, on
		}
		n := num.Wrap(api.TyI32, m.input[0])
		m.input = m.input[1:]
		return []int{n}, on
	case "unbox":
		m.free(x.Kids[0].Type, args[0][0])
		return slices.Clone(m.memory[args[0][0]:][:m.words(x.Type)]), on
	case "replace":
		at := m.memory[args[0][0]:][:m.words(x.Type)]
		held := slices.Clone(at)
		copy(at, args[1])
		return held, on
	}
	return m.enter(&m.items[types.Find(m.items, api.ItFunc, x.Text)], args), on
}

func (m *machine) enter(f *api.Item, args [][]int) []int {
	if m.calls == 48 {
		panic(stopped{api.OutDepth, 0})
	}
	m.calls++
	slots, scope := m.slots, len(m.owned)
	m.slots = map[int]int{}
	for k, p := range f.Params {
		m.own(k, p.Type, args[k])
	}
	words, how := m.value(&f.Body)
	if how == returned {
		words = m.answer
	}
	m.disown(scope)
	m.slots = slots
	m.calls--
	return words
}
