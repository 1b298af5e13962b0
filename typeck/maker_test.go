package typeck

import (
	"math/rand"
	"slices"
	"strconv"
	"strings"

	"ferrule/api"
	"ferrule/num"
	"ferrule/types"
)

// piece is a tree as it is written, and as it must be told; what is told of it is put together beside its text, from what the chapter says of its parts.
type piece struct {
	text string
	told string
	typ  api.Type
	bare bool // a bare number
	lit  bool // an ExInt, as it is written
	mut  bool // a place that may be changed
}

func (p piece) never() bool { return p.typ.Kind == api.TyNever }

// maker makes programs by chance that nothing is against, or one thing, at the place of an @.
type maker struct {
	chance *rand.Rand
	items  []api.Item // the others
	calls  []api.Item // functions that may be called
	scope  []variable
	slots  int
	loops  []int // breaks of each loop around
	answer api.Type
	room   int // how many trees may still be made, roughly
	deep   int // how many trees the next one stands in
	wrong  int // so many trees on something is wrong; below 0: nothing is
	e      api.Errno
}

func (m *maker) oneOf(n int) bool { return m.chance.Intn(n) == 0 }

func pick[T any](m *maker, list ...T) T { return list[m.chance.Intn(len(list))] }

func typeOf(kind int, elem ...api.Type) api.Type { return api.Type{Kind: kind, Elem: elem} }

func typeNamed(name string) api.Type { return api.Type{Kind: api.TyNamed, Name: name} }

func arrayOf(n int, elem api.Type) api.Type {
	return api.Type{Kind: api.TyArray, N: n, Elem: []api.Type{elem}}
}

func (m *maker) intType() api.Type { return typeOf(api.TyI8 + m.chance.Intn(6)) }

func (m *maker) anyType() api.Type {
	switch m.chance.Intn(8) {
	case 0, 1, 2:
		return m.intType()
	case 3:
		return typeOf(api.TyBool)
	case 4:
		return pick(m, typeOf(api.TyUnit), typeNamed("U"), typeNamed("One"))
	case 5:
		return pick(m, typeNamed("P"), typeNamed("Q"), typeNamed("E"))
	case 6:
		return typeOf(api.TyBox, pick(m, typeOf(api.TyU8), typeNamed("P"), typeNamed("E"), m.intType()))
	}
	return arrayOf(m.chance.Intn(4), pick(m, m.intType(), typeOf(api.TyBool), typeOf(api.TyUnit), typeOf(api.TyBox, typeOf(api.TyU8)), arrayOf(2, m.intType())))
}

// say tells a tree as tellTree does.
func say(name, text string, n int, t api.Type, kids ...string) string {
	if text != "" {
		name += "'" + text + "'"
	}
	if n != 0 {
		name += "#" + strconv.Itoa(n)
	}
	name += ":" + tellType(t)
	if len(kids) > 0 {
		name += "{" + strings.Join(kids, " ") + "}"
	}
	return name
}

func wrapped(p piece) piece {
	p.text = "(" + p.text + ")"
	return p
}

// value makes a tree of a type, to be checked with that wanted, or with nothing; never: it may be one that does not go on instead.
func (m *maker) value(t api.Type, wanted, never bool) piece {
	m.room--
	m.wrong--
	if m.wrong == 0 {
		return m.fault(t, wanted)
	}
	m.deep++
	defer func() { m.deep-- }()
	if never && m.oneOf(12) {
		return m.endless()
	}
	if m.room > 0 && m.deep < 10 {
		for range 3 {
			if p, ok := m.compound(t, wanted, never); ok {
				return p
			}
		}
	}
	return m.leaf(t, wanted)
}

func (m *maker) leaf(t api.Type, wanted bool) piece {
	switch {
	case num.Int(t.Kind):
		return m.number(t, wanted)
	case t.Kind == api.TyBool:
		n := m.chance.Intn(2)
		return piece{text: []string{"false", "true"}[n], told: say("bool", "", n, t), typ: t}
	case t.Kind == api.TyUnit:
		return piece{text: "()", told: say("unit", "", 0, t), typ: t}
	case t.Kind == api.TyArray:
		return m.array(t, wanted)
	case t.Kind == api.TyBox:
		kid := m.value(t.Elem[0], wanted, false)
		return piece{text: "Box::new(" + kid.text + ")", told: say("variant", "Box::new", 0, t, kid.told), typ: t}
	case types.Find(m.items, api.ItStruct, t.Name) >= 0:
		return m.structure(t)
	}
	return m.variant(t)
}

func (m *maker) number(t api.Type, wanted bool) piece {
	least, most := num.Range(t.Kind)
	n := pick(m, 0, 1, most, least, m.chance.Intn(100), max(least, -m.chance.Intn(100)))
	word := ""
	if !wanted && t.Kind != api.TyI32 || m.oneOf(4) {
		word = tellType(t)
	}
	p := piece{text: strconv.Itoa(n) + word, told: say("int", word, n, t), typ: t, bare: word == "", lit: n >= 0}
	if n < 0 {
		p.told = say("int", "", n, t)
	}
	return p
}

func (m *maker) array(t api.Type, wanted bool) piece {
	copied := types.Copy(m.items, t.Elem[0])
	switch {
	case copied && (t.N == 0 && !wanted || m.oneOf(3)):
		p := m.value(t.Elem[0], wanted, false)
		return piece{text: "[" + p.text + "; " + strconv.Itoa(t.N) + "]", told: say("repeat", "", t.N, t, p.told), typ: t}
	case t.N == 0 && !wanted:
		// Of what is not copied an array of none needs a wanted type: it is written out.
		text := "{ let empty: " + tellType(t) + " = []; empty }"
		slot := m.slots
		m.slots++
		return piece{text: text, told: say("block", "", 1, t, "let'empty'"+number(2*slot)+"<"+tellType(t)+">:(){"+say("array", "", 0, t)+"}", say("var", "empty", slot, t)), typ: t}
	}
	var texts, kids []string
	for k := range t.N {
		p := m.value(t.Elem[0], wanted || k > 0, k > 0)
		texts, kids = append(texts, p.text), append(kids, p.told)
	}
	return piece{text: "[" + strings.Join(texts, ", ") + "]", told: say("array", "", 0, t, kids...), typ: t}
}

func number(n int) string {
	if n == 0 {
		return ""
	}
	return "#" + strconv.Itoa(n)
}

func (m *maker) structure(t api.Type) piece {
	fields := m.items[types.Find(m.items, api.ItStruct, t.Name)].Params
	var texts, kids []string
	for _, k := range m.chance.Perm(len(fields)) {
		p := m.value(fields[k].Type, true, true)
		texts = append(texts, fields[k].Name+": "+p.text)
		kids = append(kids, say("init", fields[k].Name, k, p.typ, p.told))
	}
	return piece{text: t.Name + " { " + strings.Join(texts, ", ") + " }", told: say("struct", t.Name, 0, t, kids...), typ: t}
}

func (m *maker) variant(t api.Type) piece {
	variants := m.items[types.Find(m.items, api.ItEnum, t.Name)].Variants
	k := m.chance.Intn(len(variants))
	if m.room <= 0 || m.deep > 10 {
		k = 0
	}
	var texts, kids []string
	for _, part := range variants[k].Types {
		p := m.value(part, true, true)
		texts, kids = append(texts, p.text), append(kids, p.told)
	}
	name := t.Name + "::" + variants[k].Name
	text := name
	if len(texts) > 0 {
		text += "(" + strings.Join(texts, ", ") + ")"
	}
	return piece{text: text, told: say("variant", name, k, t, kids...), typ: t}
}

// compound makes a tree of trees, if the one that comes up fits.
func (m *maker) compound(t api.Type, wanted, never bool) (piece, bool) {
	isInt, isBool := num.Int(t.Kind), t.Kind == api.TyBool
	switch m.chance.Intn(16) {
	case 0, 1, 2:
		return m.place(t, false)
	case 3:
		return m.call(t)
	case 4:
		return m.block(t, wanted, never), true
	case 5:
		return m.choice(t, wanted), true
	case 6:
		return m.match(t, wanted), true
	case 7, 8:
		if isInt || isBool {
			return m.pair(t, t, pick(m, signsOf(isBool)...), wanted), true
		}
	case 9:
		if isBool {
			u := m.intType()
			return m.pair(u, t, pick(m, "==", "!=", "<", "<=", ">", ">="), false), true
		}
		if isInt {
			return m.shift(t, wanted), true
		}
	case 10:
		if isBool {
			return m.logical(t), true
		}
		if isInt {
			kid := m.value(pick(m, m.intType(), typeOf(api.TyBool)), false, false)
			return piece{text: wrapped(kid).text + " as " + tellType(t), told: "cast<" + tellType(t) + ">:" + tellType(t) + "{" + kid.told + "}", typ: t}, true
		}
	case 11:
		if isInt || isBool {
			kid := m.value(t, wanted, false)
			return piece{text: "!" + wrapped(kid).text, told: say("not", "", 0, t, kid.told), typ: t}, true
		}
	case 12:
		if _, signed := num.Bits(t.Kind); signed {
			kid := m.value(t, wanted, false)
			if kid.lit {
				return kid, true
			}
			return piece{text: "-" + wrapped(kid).text, told: say("neg", "", 0, t, kid.told), typ: t, bare: kid.bare}, true
		}
	case 13:
		return m.own(t)
	case 14:
		return m.constant(t)
	}
	return piece{}, false
}

func signsOf(bools bool) []string {
	if bools {
		return []string{"&", "|", "^", "==", "!="}
	}
	return []string{"+", "-", "*", "/", "%", "&", "|", "^"}
}

// constant is one of the others.
func (m *maker) constant(t api.Type) (piece, bool) {
	for _, it := range m.items {
		if _, hidden := m.find(it.Name); it.Kind == api.ItConst && it.Type.Kind == t.Kind && !hidden {
			return piece{text: it.Name, told: say("int", "", it.Num, t), typ: t}, true
		}
	}
	return piece{}, false
}

func (m *maker) find(name string) (variable, bool) {
	for _, v := range slices.Backward(m.scope) {
		if v.name == name {
			return v, true
		}
	}
	return variable{}, false
}

// pair makes one of two trees of u, which is of t itself. A type is wanted of its own one alone, not of a comparison's.
func (m *maker) pair(u, t api.Type, sign string, wanted bool) piece {
	wanted = wanted && sign != "==" && sign != "!="
	var a, b piece
	switch {
	case wanted:
		a = m.value(u, true, true)
		b = m.value(u, true, !a.never())
	case num.Int(u.Kind) && m.oneOf(3):
		a = m.number(u, true)
		if !a.bare {
			b = m.value(u, true, true)
		} else {
			b = m.value(u, false, false)
		}
	default:
		a = m.value(u, false, true)
		b = m.value(u, !a.never() && !a.bare, !a.never() && !a.bare)
	}
	return piece{text: wrapped(a).text + " " + sign + " " + wrapped(b).text, told: say("bin", sign, 0, t, a.told, b.told), typ: t}
}

func (m *maker) shift(t api.Type, wanted bool) piece {
	sign := pick(m, "<<", ">>")
	a := m.value(t, wanted, false)
	b := m.value(m.intType(), false, false)
	return piece{text: wrapped(a).text + " " + sign + " " + wrapped(b).text, told: say("bin", sign, 0, t, a.told, b.told), typ: t}
}

func (m *maker) logical(t api.Type) piece {
	sign := pick(m, "&&", "||")
	a, b := m.value(t, true, true), m.value(t, true, true)
	return piece{text: wrapped(a).text + " " + sign + " " + wrapped(b).text, told: say("bin", sign, 0, t, a.told, b.told), typ: t}
}

// own makes a call of one of the language's own.
func (m *maker) own(t api.Type) (piece, bool) {
	switch {
	case t.Kind == api.TyUnit:
		kid := m.value(pick(m, m.intType(), typeOf(api.TyBool)), false, false)
		return piece{text: "print(" + kid.text + ")", told: say("call", "print", 0, t, kid.told), typ: t}, true
	case t.Kind == api.TyI32 && m.oneOf(3):
		return piece{text: "read()", told: say("call", "read", 0, t), typ: t}, true
	case m.oneOf(2):
		kid := m.value(typeOf(api.TyBox, t), false, false)
		return piece{text: "unbox(" + kid.text + ")", told: say("call", "unbox", 0, t, kid.told), typ: t}, true
	}
	to, ok := m.borrow(typeOf(api.TyMut, t))
	if !ok {
		return piece{}, false
	}
	kid := m.value(t, true, true)
	return piece{text: "replace(" + to.text + ", " + kid.text + ")", told: say("call", "replace", 0, t, to.told, kid.told), typ: t}, true
}

// borrow makes an argument for a borrow: a new one of a place, or a variable's.
func (m *maker) borrow(t api.Type) (piece, bool) {
	for _, v := range m.scope {
		if last, _ := m.find(v.name); last.slot == v.slot && types.Same(v.typ, t) && m.oneOf(2) {
			return piece{text: v.name, told: say("var", v.name, v.slot, t), typ: t}, true
		}
	}
	p, ok := m.place(t.Elem[0], t.Kind == api.TyMut)
	if !ok {
		return piece{}, false
	}
	if t.Kind == api.TyMut {
		return piece{text: "&mut " + p.text, told: say("borrow", "", 1, t, p.told), typ: t}, true
	}
	return piece{text: "&" + p.text, told: say("borrow", "", 0, t, p.told), typ: t}, true
}

// call makes one of a function that answers a type.
func (m *maker) call(t api.Type) (piece, bool) {
	f := pick(m, m.calls...)
	if !types.Same(f.Type, t) {
		return piece{}, false
	}
	// Whether all borrows can be made is asked ahead of making anything, as what is made has taken slots.
	for _, p := range f.Params {
		if isBorrow(p.Type) && len(m.ways(p.Type.Elem[0], p.Type.Kind == api.TyMut)) == 0 {
			return piece{}, false
		}
	}
	var texts, kids []string
	for _, p := range f.Params {
		var arg piece
		if isBorrow(p.Type) {
			if arg, _ = m.borrow(p.Type); m.wrong == 1 {
				arg = m.wrongBorrow(p.Type)
			}
		} else {
			arg = m.value(p.Type, true, true)
		}
		texts, kids = append(texts, arg.text), append(kids, arg.told)
	}
	return piece{text: f.Name + "(" + strings.Join(texts, ", ") + ")", told: say("call", f.Name, 0, t, kids...), typ: t}, true
}

func (m *maker) wrongBorrow(t api.Type) piece {
	m.wrong = -1
	if m.e = api.ErrBorrow; m.oneOf(2) {
		return piece{text: pick(m, "@1", "@()", "@zero(nobody)", "@{ nobody }"), typ: t}
	}
	m.e = api.ErrType
	return piece{text: map[int]string{api.TyRef: "@&mut nobody", api.TyMut: "@&nobody"}[t.Kind], typ: t}
}

// step is a way from a place to one of its parts: a field of that name, an element, or, if it has neither, what it holds.
type step struct {
	field string
	at    int
	index bool
	typ   api.Type
}

// way is a variable, and steps from it.
type way struct {
	from  variable
	steps []step
}

// ways tells those of some steps from variables to places of a type.
func (m *maker) ways(t api.Type, mut bool) []way {
	var all []way
	var on func(w way, at api.Type, may bool)
	on = func(w way, at api.Type, may bool) {
		if types.Same(at, t) && (may || !mut) {
			all = append(all, w)
		}
		if len(w.steps) >= 3 {
			return
		}
		if isPointer(at) {
			next := append(slices.Clone(w.steps), step{typ: at.Elem[0]})
			on(way{w.from, next}, at.Elem[0], heldMay(at, may))
		}
		for isPointer(at) {
			at, may = at.Elem[0], heldMay(at, may)
		}
		if at.Kind == api.TyArray {
			next := append(slices.Clone(w.steps), step{index: true, typ: at.Elem[0]})
			on(way{w.from, next}, at.Elem[0], may)
		}
		if k := types.Find(m.items, api.ItStruct, at.Name); k >= 0 {
			for n, f := range m.items[k].Params {
				next := append(slices.Clone(w.steps), step{field: f.Name, at: n, typ: f.Type})
				on(way{w.from, next}, f.Type, may)
			}
		}
	}
	for _, v := range m.scope {
		if last, _ := m.find(v.name); last.slot == v.slot {
			on(way{from: v}, v.typ, v.mut)
		}
	}
	return all
}

func heldMay(t api.Type, may bool) bool {
	return t.Kind == api.TyMut || t.Kind == api.TyBox && may
}

// place makes a place of a type, if there is one.
func (m *maker) place(t api.Type, mut bool) (piece, bool) {
	all := m.ways(t, mut)
	if len(all) == 0 {
		return piece{}, false
	}
	w := pick(m, all...)
	p := piece{text: w.from.name, told: say("var", w.from.name, w.from.slot, w.from.typ), typ: w.from.typ}
	for _, s := range w.steps {
		if s.field == "" && !s.index {
			p = piece{text: "*" + p.text, told: say("deref", "", 0, s.typ, p.told), typ: s.typ}
			continue
		}
		for isPointer(p.typ) {
			p.typ = p.typ.Elem[0]
			p.told = say("deref", "", 0, p.typ, p.told)
		}
		if strings.HasPrefix(p.text, "*") {
			p = wrapped(p)
		}
		if s.index {
			k := m.value(m.intType(), false, false)
			p = piece{text: p.text + "[" + k.text + "]", told: say("index", "", 0, s.typ, p.told, k.told), typ: s.typ}
		} else {
			p = piece{text: p.text + "." + s.field, told: say("field", s.field, s.at, s.typ, p.told), typ: s.typ}
		}
	}
	return p, true
}

// endless makes a tree that does not go on.
func (m *maker) endless() piece {
	text, told := m.jump()
	t := typeOf(api.TyNever)
	return piece{text: "{ " + text + " }", told: say("block", "", 0, t, told), typ: t}
}

// jump makes a statement that does not go on.
func (m *maker) jump() (text, told string) {
	never := typeOf(api.TyNever)
	switch {
	case len(m.loops) > 0 && m.oneOf(2):
		m.loops[len(m.loops)-1]++
		return "break;", say("break", "", 0, never)
	case len(m.loops) > 0 && m.oneOf(2):
		return "continue;", say("next", "", 0, never)
	case m.answer.Kind == api.TyUnit && m.oneOf(2):
		return "return;", say("return", "", 0, never)
	case m.oneOf(3):
		return "loop {}", say("loop", "", 0, never, say("block", "", 0, typeOf(api.TyUnit)))
	}
	kid := m.value(m.answer, true, m.room > 0)
	return "return " + kid.text + ";", say("return", "", 0, never, kid.told)
}

// scoped ends the scopes of what is made in it.
func (m *maker) scoped(make func()) {
	outside := len(m.scope)
	make()
	m.scope = m.scope[:outside]
}

func (m *maker) declare(t api.Type, mut bool) (string, int) {
	name := pick(m, "a", "b", "c", "x", "y", "K", "_", "print", "a1", "a2", "a3", "a4")
	slot := m.slots
	m.slots++
	m.scope = append(m.scope, variable{name, t, slot, mut})
	return name, slot
}

// block makes one of a type, with statements ahead of its value; of unit it may have none.
func (m *maker) block(t api.Type, wanted, never bool) (p piece) {
	m.scoped(func() {
		var texts, kids []string
		ended := false
		for range m.chance.Intn(4) {
			text, told, end := m.statement(never || t.Kind != api.TyUnit)
			texts, kids, ended = append(texts, text), append(kids, told), ended || end
		}
		if p.typ = t; t.Kind == api.TyUnit && m.oneOf(2) && (never || !ended) {
			if ended {
				p.typ = typeOf(api.TyNever)
			}
			p.text, p.told = "{ "+strings.Join(texts, " ")+" }", say("block", "", 0, p.typ, kids...)
			return
		}
		value := m.value(t, wanted, never)
		p.typ = value.typ
		p.text = "{ " + strings.Join(append(texts, value.text), " ") + " }"
		p.told = say("block", "", 1, p.typ, append(kids, value.told)...)
	})
	return p
}

func (m *maker) choice(t api.Type, wanted bool) piece {
	asked := m.value(typeOf(api.TyBool), true, true)
	head := "if (" + asked.text + ") "
	if t.Kind == api.TyUnit && m.oneOf(2) {
		second := m.block(t, true, true)
		return piece{text: head + second.text, told: say("if", "", 0, t, asked.told, second.told), typ: t}
	}
	second := m.block(t, wanted, true)
	var third piece
	if m.oneOf(4) && m.deep < 10 {
		third = m.choice(t, wanted || !second.never())
	} else {
		third = m.block(t, wanted || !second.never(), !second.never())
	}
	return piece{text: head + second.text + " else " + third.text, told: say("if", "", 0, t, asked.told, second.told, third.told), typ: t}
}

// match makes one over a number, a bool or a variant.
func (m *maker) match(t api.Type, wanted bool) piece {
	of := pick(m, m.intType(), typeOf(api.TyBool), typeNamed("E"), typeNamed("One"))
	value := m.value(of, false, false)
	var texts []string
	kids := []string{value.told}
	known := wanted
	patterns := m.patterns(of)
	for k, make := range patterns {
		m.scoped(func() {
			text, told := make()
			// The last arm goes on, if none ahead of it does.
			tree := m.value(t, known, known || k < len(patterns)-1)
			known = known || !tree.never()
			texts = append(texts, text+" => "+tree.text)
			kids = append(kids, say("arm", "", 0, tree.typ, told, tree.told))
		})
	}
	typ := t
	if !slices.ContainsFunc(kids[1:], func(s string) bool { return !strings.HasPrefix(s, "arm:!") }) {
		typ = typeOf(api.TyNever)
	}
	if typ.Kind == api.TyNever {
		// Where that may not be, one more arm can't be added; a value behind it is.
		return m.behind(piece{text: "match (" + value.text + ") { " + strings.Join(texts, ", ") + " }", told: say("match", "", 0, typ, kids...), typ: typ}, t, wanted)
	}
	return piece{text: "match (" + value.text + ") { " + strings.Join(texts, ", ") + " }", told: say("match", "", 0, typ, kids...), typ: typ}
}

// behind makes a block with a statement and a value behind it.
func (m *maker) behind(first piece, t api.Type, wanted bool) piece {
	value := m.value(t, wanted, false)
	told := say("stmt", "", 0, first.typ, first.told)
	return piece{text: "{ " + first.text + "; " + value.text + " }", told: say("block", "", 1, t, told, value.told), typ: t}
}

// patterns makes what makes the patterns of a match that has all cases.
func (m *maker) patterns(of api.Type) []func() (string, string) {
	var all []func() (string, string)
	any := func() (string, string) { return "_", say("paany", "", 0, of) }
	add := func(text, told string) {
		all = append(all, func() (string, string) { return text, told })
	}
	switch {
	case num.Int(of.Kind):
		least, most := num.Range(of.Kind)
		list := []int{least, 0, most, 1}
		slices.Sort(list)
		for _, n := range slices.Compact(list) {
			if m.oneOf(2) {
				add(strconv.Itoa(n), say("paint", "", n, of))
			}
		}
		return append(all, any)
	case of.Kind == api.TyBool:
		add("true", say("pabool", "", 1, of))
		add("false", say("pabool", "", 0, of))
	default:
		for k, v := range m.items[types.Find(m.items, api.ItEnum, of.Name)].Variants {
			all = append(all, func() (string, string) { return m.variantPattern(of, k, v) })
		}
	}
	m.chance.Shuffle(len(all), func(a, b int) { all[a], all[b] = all[b], all[a] })
	if m.oneOf(2) {
		return append(all[:m.chance.Intn(len(all)+1)], any)
	}
	return all
}

func (m *maker) variantPattern(of api.Type, k int, v api.Variant) (string, string) {
	text := of.Name + "::" + v.Name
	name := text
	var names, kids []string
	used := len(m.scope)
	for _, part := range v.Types {
		if m.oneOf(3) {
			names, kids = append(names, "_"), append(kids, say("pabind", "_", -1, part))
			continue
		}
		bound, slot := m.declare(part, false)
		twice := slices.ContainsFunc(m.scope[used:len(m.scope)-1], func(v variable) bool { return v.name == bound })
		if bound == "_" || twice {
			bound = "p" + strconv.Itoa(slot)
			m.scope[len(m.scope)-1].name = bound
		}
		names, kids = append(names, bound), append(kids, say("pabind", bound, slot, part))
	}
	if len(names) > 0 {
		text += "(" + strings.Join(names, ", ") + ")"
	}
	return text, say("pavariant", name, k, of, kids...)
}

// statement makes one; end: it may be one that does not go on. It tells whether it does not.
func (m *maker) statement(end bool) (text, told string, ended bool) {
	unit := typeOf(api.TyUnit)
	m.room--
	switch m.chance.Intn(7) {
	case 0, 1, 2:
		return m.let(end)
	case 3:
		return m.assign(end)
	case 4:
		return m.while()
	case 5:
		if end {
			if m.oneOf(3) {
				return m.loop()
			}
			if m.oneOf(4) {
				text, told = m.jump()
				return text, told, true
			}
		}
	}
	kid := m.value(m.anyType(), false, end)
	typ := unit
	if kid.never() {
		typ = kid.typ
	}
	return kid.text + ";", say("stmt", "", 0, typ, kid.told), kid.never()
}

func (m *maker) let(end bool) (text, told string, ended bool) {
	t, typed, written := m.anyType(), "", ""
	wanted := m.oneOf(2)
	kid := m.value(t, wanted, end)
	if kid.never() && !wanted {
		t = typeOf(api.TyUnit)
	}
	if wanted {
		typed, written = "<"+tellType(t)+">", ": "+tellType(t)
	}
	mut := m.oneOf(2)
	name, slot := m.declare(t, mut)
	n, word := 2*slot, ""
	if mut {
		n, word = n+1, "mut "
	}
	typ := typeOf(api.TyUnit)
	if kid.never() {
		typ = kid.typ
	}
	told = "let'" + name + "'" + number(n) + typed + ":" + tellType(typ) + "{" + kid.told + "}"
	return "let " + word + name + written + " = " + kid.text + ";", told, kid.never()
}

func (m *maker) assign(end bool) (text, told string, ended bool) {
	t := m.anyType()
	to, ok := m.place(t, true)
	if !ok {
		return m.let(end)
	}
	kid := m.value(t, true, end)
	typ := typeOf(api.TyUnit)
	if kid.never() {
		typ = kid.typ
	}
	return to.text + " = " + kid.text + ";", say("assign", "", 0, typ, to.told, kid.told), kid.never()
}

func (m *maker) while() (text, told string, ended bool) {
	m.loops = append(m.loops, 0)
	asked := m.value(typeOf(api.TyBool), true, true)
	body := m.block(typeOf(api.TyUnit), true, true)
	m.loops = m.loops[:len(m.loops)-1]
	return "while (" + asked.text + ") " + body.text, say("while", "", 0, typeOf(api.TyUnit), asked.told, body.told), false
}

func (m *maker) loop() (text, told string, ended bool) {
	m.loops = append(m.loops, 0)
	body := m.block(typeOf(api.TyUnit), true, true)
	t := typeOf(api.TyUnit)
	if ended = m.loops[len(m.loops)-1] == 0; ended {
		t = typeOf(api.TyNever)
	}
	m.loops = m.loops[:len(m.loops)-1]
	return "loop " + body.text, say("loop", "", 0, t, body.told), ended
}

// fault makes a tree with something wrong in it, and marks where.
func (m *maker) fault(t api.Type, wanted bool) piece {
	faults := []struct {
		e    api.Errno
		text string
	}{
		{api.ErrName, "@nobody"}, {api.ErrName, "@nobody(1)"}, {api.ErrName, "@E::Nobody"}, {api.ErrName, "@Nobody {}"}, {api.ErrName, "P { @c: 1 }"}, {api.ErrName, "{ @let q: Nobody = 1; () }"}, {api.ErrName, "{ @nobody = 1; () }"},
		{api.ErrCount, "@one()"}, {api.ErrCount, "@print(nobody, 2)"}, {api.ErrCount, "@E::A"}, {api.ErrCount, "@P { a: 1 }"}, {api.ErrCount, "@Box::new()"}, {api.ErrCount, "match E::N { @E::A => 1 }"},
		{api.ErrBorrow, "@&nobody"}, {api.ErrBorrow, "{ @let q: &u8 = 1; () }"}, {api.ErrPlace, "*@1"}, {api.ErrPlace, "@zero().a"}, {api.ErrPlace, "{ @zero() = 1; () }"}, {api.ErrMutable, "{ let q = 1; @q = 2; }"},
		{api.ErrRange, "@300u8"}, {api.ErrRange, "-@129i8"}, {api.ErrRange, "match 1u8 { @256 => 1 }"}, {api.ErrType, "@-1u8"}, {api.ErrType, "print(@-true)"}, {api.ErrType, "print(() @+ ())"}, {api.ErrType, "true @< false"}, {api.ErrType, "print([1i8, @true])"}, {api.ErrType, "print(@())"},
		{api.ErrType, "if @1 {} else {}"}, {api.ErrType, "match @() {}"}, {api.ErrType, "{ let q: u8 = @true; () }"}, {api.ErrType, "unbox(@1)"}, {api.ErrType, "() @as u8"}, {api.ErrType, "1u8 @as bool"}, {api.ErrType, "print(1u8 << @true)"}, {api.ErrMove, "print(@[Box::new(1); 2])"},
		{api.ErrSize, "print(@[1u8; 129])"}, {api.ErrMatch, "print(@match true { true => 1 })"}, {api.ErrMatch, "print(match 1 { 1 => (), @1 => nobody })"}, {api.ErrTwice, "P { a: 1, @a: nobody }"}, {api.ErrTwice, "match E::N { E::B(q, @q) => 1 }"},
	}
	if len(m.loops) == 0 {
		faults = append(faults, struct {
			e    api.Errno
			text string
		}{api.ErrLoop, "{ @break; 1 }"})
	}
	f := pick(m, faults...)
	if wanted && m.oneOf(3) {
		f.e, f.text = api.ErrType, pick(m, "@()", "@{}", "@zero()", "@print(1)", "@if true {}")
		if t.Kind == api.TyUnit {
			f.text = pick(m, "@true", "@1", "{ @1 }", "1 @+ 2", "@E::N", "@-1", "if true { @1 } else {}")
		}
	}
	m.wrong, m.e = -1, f.e
	return piece{text: f.text, typ: t}
}
