package lower_test

import (
	"math/rand"
	"strconv"
	"strings"
)

// argument makes one of a call; what it borrows may not be used till the call is made.
func (m *maker) argument(typ string) (string, bool) {
	if !strings.HasPrefix(typ, "&") {
		return m.strictly(func() string { return m.value(typ) }), true
	}
	mut := strings.HasPrefix(typ, "&mut ")
	var all []way
	for _, v := range m.scope {
		if v.typ == typ && v.free() {
			all = append(all, way{text: v.text, root: v})
		}
	}
	sign := map[bool]string{true: "&mut ", false: "&"}[mut]
	for _, p := range m.ways(strings.TrimPrefix(typ, sign), mut) {
		p.text = sign + p.text
		all = append(all, p)
	}
	if len(all) == 0 {
		return "", false
	}
	p := all[m.chance.Intn(len(all))]
	text := m.disturbed(p)
	// Of what holds Boxes itself nothing is there any more, once it was let go.
	p.root.lent = p.held && isCopied(p.typ)
	p.root.locked = !p.root.lent
	return text, true
}

// strictly makes something that uses nothing that is borrowed.
func (m *maker) strictly(make func() string) string {
	defer m.unlock(m.locks())
	for _, v := range m.scope {
		v.locked, v.lent = v.locked || v.lent, false
	}
	return make()
}

// disturbed is a place that is borrowed, at times with an index that does something with what other arguments borrow.
func (m *maker) disturbed(p way) string {
	at := strings.LastIndex(p.text, "[")
	if at < 0 || m.deep > 8 || m.oneOf(4) {
		return p.text
	}
	defer m.unlock(m.locks())
	var lent []*name
	for _, v := range m.scope {
		if v.lent {
			lent = append(lent, v)
		}
		v.lent = false
	}
	p.root.locked = true
	end := at + strings.Index(p.text[at:], "]")
	return p.text[:at+1] + "{ " + m.scoped(func() string { return m.disturbing(lent) }) + " " + p.text[at+1:end] + " }" + p.text[end:]
}

// disturbing makes a statement that likely lets go what is borrowed of some variables.
func (m *maker) disturbing(lent []*name) string {
	if len(lent) == 0 || m.oneOf(5) {
		return m.statement()
	}
	v := lent[m.chance.Intn(len(lent))]
	switch {
	case v.moved || isCopied(v.typ) || strings.HasPrefix(v.typ, "&"):
		return m.statement()
	case m.oneOf(2) && v.mut:
		value := m.value(v.typ)
		v.moved = false
		return v.text + " = " + value + ";"
	case v.loops < m.loops:
		return m.statement()
	}
	v.moved = true
	if strings.HasPrefix(v.typ, "Box<") && m.oneOf(2) {
		typ := v.typ[4 : len(v.typ)-1]
		return "let mut " + m.declare(typ, true) + " = unbox(" + v.text + "); " + m.statement()
	}
	return "let mut " + m.declare(v.typ, true) + " = " + v.text + "; " + m.statement()
}

// lend makes a call of what borrows a part of a Box, while an index likely lets that go.
func (m *maker) lend() string {
	typ := m.pick("i32", "P")
	list := m.value("[i32; 3]")
	text := "let " + m.declare("[i32; 3]", false) + ": [i32; 3] = " + list + "; "
	array := m.scope[len(m.scope)-1]
	var all []way
	for _, p := range m.ways(typ, true) {
		if p.held && !strings.HasPrefix(p.root.typ, "&") {
			all = append(all, p)
		}
	}
	if len(all) == 0 {
		held := m.value(typ)
		return text + "let mut " + m.declare("Box<"+typ+">", true) + ": Box<" + typ + "> = Box::new(" + held + ");"
	}
	p := all[m.chance.Intn(len(all))]
	array.locked = true
	block := m.scoped(func() string { return m.disturbing([]*name{p.root}) })
	array.locked = false
	return text + "let mut " + m.declare(typ, true) + " = " + typ + "_lent(&mut " + p.text + ", &" + array.text + "[{ " + block + " " + m.pick("0", "1", "2") + " }]);"
}

// lock is how a variable is borrowed.
type lock struct{ locked, lent bool }

func (m *maker) locks() map[*name]lock {
	all := map[*name]lock{}
	for _, v := range m.scope {
		all[v] = lock{v.locked, v.lent}
	}
	return all
}

func (m *maker) unlock(all map[*name]lock) {
	for v, was := range all {
		v.locked, v.lent = was.locked, was.lent
	}
}

// call makes one that answers a type.
func (m *maker) call(typ string) string {
	var list []signature
	if typ != "" {
		list = append(list, signature{"replace", []string{"&mut " + typ, typ}, typ})
	}
	for _, f := range m.calls {
		if f.answer == typ {
			list = append(list, f, f)
		}
	}
	if len(list) == 0 {
		return m.leaf(typ)
	}
	return m.callOf(list[m.chance.Intn(len(list))])
}

// callOf makes one of a function, if there is something for each borrow.
func (m *maker) callOf(f signature) string {
	defer m.unlock(m.locks())
	ahead := m.moved()
	var args []string
	for _, p := range f.params {
		arg, ok := m.argument(p)
		if !ok {
			// What was made for the arguments ahead is not used.
			m.setMoved(ahead)
			return m.leaf(f.answer)
		}
		args = append(args, arg)
	}
	return f.name + "(" + strings.Join(args, ", ") + ")"
}

// scoped ends the scopes of what is declared in it.
func (m *maker) scoped(make func() string) string {
	outside := len(m.scope)
	text := make()
	m.scope = m.scope[:outside]
	return text
}

// block makes one of a type; of none it is a statement's.
func (m *maker) block(typ string) string {
	return m.scoped(func() string {
		text := "{ "
		m.deep++
		for range m.chance.Intn(4) {
			if m.deep <= 8 && (m.room > 0 || m.oneOf(3)) {
				text += m.statement() + " "
			}
		}
		m.deep--
		if typ != "" {
			text += m.value(typ)
		}
		return text + " }"
	})
}

// match makes one whose arms are of a type; of none they are statements'.
func (m *maker) match(typ string) string {
	of := m.pick("i32", "u8", "bool", "u32", "E", "E", "F", "L", "C", "M")
	text := "match (" + m.value(of) + ") { "
	var arms []func() string
	all := true
	for _, v := range variantsOf(of) {
		if m.oneOf(5) {
			all = false
			continue
		}
		arms = append(arms, func() string {
			return m.scoped(func() string { return of + "::" + v[0] + m.list(v[1:], m.bind) + " => " + m.block(typ) })
		})
	}
	if len(variantsOf(of)) == 0 {
		all = of == "bool" && m.oneOf(2)
		for _, pattern := range map[string][]string{"bool": {"true", "false"}, "i32": {"0", "-1", "7", "1", "2", "100", "-2147483648"}, "u8": {"255", "1"}, "u32": {"1", "4294967295", "5", "2147483648", "0"}}[of] {
			if pattern != "false" || all {
				arms = append(arms, func() string { return pattern + " => " + m.block(typ) })
			}
		}
	}
	if !all || m.oneOf(4) {
		arms = append(arms, func() string { return "_ => " + m.block(typ) })
	}
	return text + strings.Join(m.branches(arms...), ", ") + " }"
}

func (m *maker) bind(typ string) string {
	if m.oneOf(3) {
		return "_"
	}
	return m.declare(typ, false)
}

func (m *maker) statement() string {
	m.room--
	if m.room <= 0 && m.oneOf(2) {
		return "print(" + m.placeValue(m.pick("i32", "u8", "bool")) + ");"
	}
	switch m.chance.Intn(21) {
	case 20:
		return m.lend()
	case 0, 1, 2, 3:
		typ := m.anyType()
		value := m.value(typ)
		return "let mut " + m.declare(typ, true) + ": " + typ + " = " + value + ";"
	case 4, 5, 6:
		return m.assign()
	case 7, 8:
		text := "if " + m.condition() + " "
		if m.oneOf(2) {
			return text + m.either("", m.block, m.block)
		}
		return text + m.perhaps(func() string { return m.block("") })
	case 9, 10:
		return m.loop()
	case 11, 18:
		return m.end()
	case 12, 13:
		return "print(" + m.value(m.pick("i32", "u8", "bool", "u32", "i16")) + ");"
	case 14:
		return m.match("") + ";"
	case 15:
		return m.grown()
	case 16, 17:
		if len(m.calls) > 0 {
			return "(" + m.callOf(m.calls[m.chance.Intn(len(m.calls))]) + ");"
		}
	}
	return "(" + m.value(m.anyType()) + ");"
}

// assign makes an assignment: the value comes first, then the place; a variable holds something again behind it.
func (m *maker) assign() string {
	typ := m.anyType()
	value := m.value(typ)
	all := m.ways(typ, true)
	for _, v := range m.scope {
		if v.typ == typ && v.mut && v.free() {
			all = append(all, way{text: v.text, root: v})
		}
	}
	if len(all) == 0 {
		return "(" + value + ");"
	}
	p := all[m.chance.Intn(len(all))]
	text := m.disturbed(p)
	p.root.moved = false
	return text + " = " + value + ";"
}

// grown makes a list longer, whatever loop it stands in.
func (m *maker) grown() string {
	for _, v := range m.scope {
		if v.typ == "L" && v.mut && !v.moved && v.free() {
			return v.text + " = L::C(" + m.number("i32") + ", Box::new(" + v.text + "));"
		}
	}
	return "let mut " + m.declare("L", true) + " = L::N;"
}

// loop makes one that has an end, mostly: its counter is nobody else's.
func (m *maker) loop() string {
	counter := m.declare("i32", false)
	turns := m.pick("1", "2", "3", "3", "5", "70")
	text := "let mut " + counter + " = 0; "
	body := m.perhaps(func() string {
		m.loops++
		defer func() { m.loops-- }()
		return counter + " = " + counter + " + 1; " + strings.TrimPrefix(m.block(""), "{ ")
	})
	switch m.chance.Intn(3) {
	case 0:
		return text + "loop { if " + counter + " == " + turns + " { break; } " + body
	case 1:
		return text + "while { let b = Box::new(" + counter + "); *b < " + turns + " } { " + body
	}
	return text + "while " + counter + " < " + turns + " { " + body
}

// end makes a statement that does not go on, at times.
func (m *maker) end() string {
	switch {
	case m.loops > 0 && m.oneOf(2):
		return m.pick("break;", "continue;")
	case m.oneOf(3):
		if m.answer == "" {
			return "return;"
		}
		return "return " + m.value(m.answer) + ";"
	case m.oneOf(20):
		return "loop {}"
	}
	return "();"
}

// function makes one; its params are its first variables.
func (m *maker) function(f signature, room int) string {
	m.scope, m.answer, m.loops = nil, f.answer, 0
	var params []string
	for _, typ := range f.params {
		v := m.declare(typ, !strings.HasPrefix(typ, "&"))
		params = append(params, strings.TrimPrefix("mut "+v, map[bool]string{true: "mut "}[strings.HasPrefix(typ, "&")])+": "+typ)
	}
	text := "fn " + f.name + "(" + strings.Join(params, ", ") + ")"
	if f.answer != "" {
		text += " -> " + f.answer
	}
	text += " { "
	for range 3 {
		m.room = 0
		typ := m.anyType()
		value := m.value(typ)
		text += "let mut " + m.declare(typ, true) + " = " + value + "; "
	}
	for m.room = room; m.room > 0; {
		text += m.statement() + " "
	}
	if f.answer != "" {
		text += m.value(f.answer)
	}
	return text + " }\n"
}

// program makes one of some functions; each calls those behind it, and at times any.
func program(seed int64, room int) string {
	m := &maker{chance: rand.New(rand.NewSource(seed))}
	var all []signature
	for k := range 1 + m.chance.Intn(4) {
		f := signature{name: "f" + strconv.Itoa(k), answer: m.pick("", "()", "i32", "bool", "u8", "Box<i32>", "E", "P", "L", "Q", "F", "G", "O", "C", "[i32; 3]", "K1", "M")}
		for range m.chance.Intn(3) {
			f.params = append(f.params, m.pick(m.pick(lentTypes...), m.pick(lentTypes...), m.pick("i32", "u8", "bool", "Box<i32>", "P", "L", "Box<P>", "[i32; 3]", "F", "()", "E", "O", "C", "K1", "Q")))
		}
		all = append(all, f)
	}
	text := ""
	for k, f := range all {
		m.calls = all[k+1:]
		if m.oneOf(4) {
			m.calls = all
		}
		text += m.function(f, room)
	}
	m.calls = all
	return made + text + m.function(signature{name: "main"}, room)
}
