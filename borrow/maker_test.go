package borrow

import (
	"math/rand"
	"slices"
	"strconv"
	"strings"
)

// maker makes by chance bodies that typeck takes, of the items in others.
type maker struct {
	chance *rand.Rand
	scope  []name
	names  int
	loops  int
	room   int  // how much may still be made, roughly
	deep   int  // in how many values and blocks the next one stands
	plain  bool // all types are copied, and nothing is borrowed
}

// name is a variable.
type name struct {
	text, typ string
	mut       bool
}

// reached is a place as it is written.
type reached struct {
	text, typ string
	mut       bool // it may be changed
	whole     bool // it is a variable
}

func (m *maker) oneOf(n int) bool { return m.chance.Intn(n) == 0 }

func (m *maker) pick(list ...string) string { return list[m.chance.Intn(len(list))] }

// make makes one of some; the others are not even begun.
func (m *maker) make(list ...func() string) string { return list[m.chance.Intn(len(list))]() }

func (m *maker) anyType() string {
	if m.plain {
		return m.pick("i32", "bool", "P", "[i32; 2]")
	}
	return m.pick("i32", "bool", "P", "[i32; 2]", "Box<i32>", "Box<i32>", "Box<i32>", "Box<i32>", "Q", "[Box<i32>; 2]", "Box<Box<i32>>", "E")
}

// parts tells the places that are one step on from a place.
func (m *maker) parts(p reached) []reached {
	on := func(text, typ string) reached { return reached{text: text, typ: typ, mut: p.mut} }
	switch p.typ {
	case "P":
		return []reached{on(p.text+".a", "i32"), on(p.text+".b", "i32")}
	case "Q":
		return []reached{on(p.text+".p", "P"), on(p.text+".k", "Box<i32>"), on(p.text+".l", "[i32; 2]"), on(p.text+".n", "[Box<i32>; 2]")}
	case "[i32; 2]":
		return []reached{on(p.text+"["+m.index()+"]", "i32")}
	case "[Box<i32>; 2]":
		return []reached{on(p.text+"["+m.index()+"]", "Box<i32>")}
	case "Box<i32>":
		return []reached{on("(*"+p.text+")", "i32")}
	case "Box<Box<i32>>":
		return []reached{on("(*"+p.text+")", "Box<i32>")}
	}
	if typ, is := strings.CutPrefix(p.typ, "&mut "); is {
		return m.pointed(reached{text: p.text, typ: typ, mut: true})
	}
	if typ, is := strings.CutPrefix(p.typ, "&"); is {
		return m.pointed(reached{text: p.text, typ: typ})
	}
	return nil
}

// pointed tells what a borrow points to, and its parts, which may be gone through to.
func (m *maker) pointed(p reached) []reached {
	list := []reached{{text: "(*" + p.text + ")", typ: p.typ, mut: p.mut}}
	if p.typ != "i32" {
		list = append(list, m.parts(p)...)
	}
	return list
}

func (m *maker) index() string {
	if m.plain || m.room <= 0 || !m.oneOf(3) {
		return m.pick("0", "1", "ONE", m.simple("i32"))
	}
	return m.value("i32")
}

// places tells those of a type that can be reached from variables; an index in them is made by chance.
func (m *maker) places(typ string, mut bool) []reached {
	var all []reached
	var on func(p reached, deep int)
	on = func(p reached, deep int) {
		if p.typ == typ && (p.mut || !mut) {
			all = append(all, p)
		}
		if deep > 0 && m.oneOf(2) {
			for _, q := range m.parts(p) {
				on(q, deep-1)
			}
		}
	}
	if m.room > 0 {
		m.room--
		for _, v := range m.scope {
			on(reached{v.text, v.typ, v.mut, true}, 4)
		}
	}
	return all
}

func (m *maker) leaf(typ string) string {
	switch typ {
	case "P":
		return "P { a: " + m.value("i32") + ", b: 2 }"
	case "Q":
		return "Q { p: " + m.value("P") + ", k: " + m.value("Box<i32>") + ", l: [1, 2], n: [give(), " + m.value("Box<i32>") + "] }"
	case "[i32; 2]":
		return "[" + m.value("i32") + ", 2]"
	case "[Box<i32>; 2]":
		return "[" + m.value("Box<i32>") + ", give()]"
	case "Box<i32>":
		return "Box::new(" + m.value("i32") + ")"
	case "Box<Box<i32>>":
		return "Box::new(" + m.value("Box<i32>") + ")"
	case "E":
		if m.oneOf(2) {
			return "E::A(" + m.value("Box<i32>") + ")"
		}
		return "E::B(" + m.value("i32") + ", give())"
	}
	return m.simple(typ)
}

// simple makes a value without much in it.
func (m *maker) simple(typ string) string {
	for _, v := range m.scope {
		if v.typ == typ && m.oneOf(4) {
			return v.text
		}
	}
	return map[string]string{"i32": m.pick("0", "1", "2", "ONE"), "bool": m.pick("true", "yes()"), "P": "P { a: 1, b: 2 }", "Q": "q()", "[i32; 2]": "[1, 2]", "[Box<i32>; 2]": "[give(), give()]", "Box<i32>": "give()", "Box<Box<i32>>": "Box::new(give())", "E": "E::N"}[typ]
}

// value makes a tree of a type.
func (m *maker) value(typ string) string {
	m.deep++
	defer func() { m.deep-- }()
	if m.room <= 0 || m.deep > 10 {
		return m.simple(typ)
	}
	m.room--
	switch m.chance.Intn(12) {
	case 0, 1, 2, 3, 4, 5:
		return m.placeValue(typ)
	case 11:
		return m.block(typ)
	case 6:
		return "if " + m.condition() + " " + m.block(typ) + " else " + m.block(typ)
	case 7:
		return m.match(typ)
	case 8, 9:
		return m.call(typ)
	case 10:
		return m.signed(typ)
	}
	return m.leaf(typ)
}

// placeValue makes one of a place; of a type that is not copied it is mostly a variable's.
func (m *maker) placeValue(typ string) string {
	all := m.places(typ, false)
	isCopied := slices.Contains([]string{"i32", "bool", "P", "[i32; 2]"}, typ)
	if !isCopied && !m.oneOf(8) {
		all = slices.DeleteFunc(all, func(p reached) bool { return !p.whole })
	}
	if len(all) == 0 {
		return m.leaf(typ)
	}
	return all[m.chance.Intn(len(all))].text
}

// condition makes a bool where no struct may be written outside brackets.
func (m *maker) condition() string { return "(" + m.value("bool") + ")" }

func (m *maker) signed(typ string) string {
	switch typ {
	case "i32":
		return m.make(func() string { return "(" + m.value(typ) + " + " + m.value(typ) + ")" }, func() string { return "(-(" + m.value(typ) + "))" }, func() string { return "((" + m.value("bool") + ") as i32)" })
	case "bool":
		return "(" + m.value(typ) + m.pick(" && ", " || ", " && ", " || ", " & ") + m.value(typ) + ")"
	case "Box<i32>":
		return "unbox(" + m.value("Box<Box<i32>>") + ")"
	}
	return m.leaf(typ)
}

// borrow makes an argument for a borrow, if something can be borrowed so.
func (m *maker) borrow(typ string) string {
	held, mut := strings.CutPrefix(typ, "&mut ")
	held = strings.TrimPrefix(held, "&")
	var all []string
	for _, v := range m.scope {
		if v.typ == typ {
			all = append(all, v.text)
		}
	}
	for _, p := range m.places(held, mut) {
		all = append(all, "&"+map[bool]string{true: "mut "}[mut]+p.text)
	}
	if len(all) == 0 {
		return ""
	}
	return m.pick(all...)
}

// call makes one of a function that answers a type.
func (m *maker) call(typ string) string {
	var list []string
	switch typ {
	case "i32":
		list = []string{"see(&i32)", "set(&mut i32)", "seen(&Box<i32>)", "swap(&mut Box<i32>)", "looked(&Q)", "changed(&mut Q)", "mi(&mut i32, i32)", "eat(Box<i32>)", "replace(&mut i32, i32)", "unbox(Box<i32>)"}
	case "bool":
		list = []string{"yes()", "ask(Box<i32>)"}
	case "Box<i32>", "Q", "E", "P":
		list = []string{"replace(&mut " + typ + ", " + typ + ")"}
	case "":
		list = []string{"rr(&i32, &i32)", "rm(&i32, &mut i32)", "mr(&mut i32, &i32)", "mm(&mut i32, &mut i32)", "ri(&i32, i32)", "ir(i32, &i32)", "im(i32, &mut i32)", "qq(&Q, &Q)", "qm(&Q, &mut Q)", "qr(&Q, &i32)", "qs(&Q, &mut i32)", "qi(&Q, i32)", "mq(&mut Q, &Q)", "ms(&mut Q, &mut i32)", "mo(&mut Q, i32)", "qb(&Q, Box<i32>)", "bb(&Box<i32>, Box<i32>)",
			"bi(&Box<i32>, i32)", "bq(&Box<i32>, Q)", "mmm(&mut i32, &mut i32, &mut i32)", "rii(&i32, i32, i32)", "mrr(&mut i32, &i32, &i32)", "iri(i32, &i32, i32)", "lr(&[i32; 2], &mut i32)", "three(Box<i32>, Box<i32>, Box<i32>)", "part(Q)", "print(i32)", "print(bool)"}
	}
	if m.plain {
		list = slices.DeleteFunc(list, func(s string) bool { return strings.ContainsAny(s, "&<Q") })
	}
	if len(list) == 0 {
		return m.leaf(typ)
	}
	head, params, _ := strings.Cut(strings.TrimSuffix(m.pick(list...), ")"), "(")
	var args []string
	for _, p := range strings.Split(params, ", ") {
		arg := ""
		if strings.HasPrefix(p, "&") {
			if arg = m.borrow(p); arg == "" {
				return m.leaf(map[bool]string{true: "i32", false: typ}[typ == ""])
			}
		} else if p != "" {
			arg = m.value(p)
		}
		args = append(args, arg)
	}
	return head + "(" + strings.Join(args, ", ") + ")"
}

// scoped ends the scopes of what is made in it.
func (m *maker) scoped(make func() string) string {
	outside := len(m.scope)
	text := make()
	m.scope = m.scope[:outside]
	return text
}

func (m *maker) declare(typ string, mut bool) string {
	m.names++
	text := "v" + strconv.Itoa(m.names)
	m.scope = append(m.scope, name{text, typ, mut})
	return text
}

// block makes one of a type; of none it is a statement's.
func (m *maker) block(typ string) string {
	return m.scoped(func() string {
		text := "{ "
		m.deep++
		for range m.chance.Intn(4) {
			if m.deep <= 10 {
				text += m.statement() + " "
			}
		}
		m.deep--
		if typ != "" {
			text += m.value(typ)
		}
		return text + " }"
	})
}

func (m *maker) match(typ string) string {
	if m.plain || m.oneOf(2) {
		return "match (" + m.value("i32") + ") { 1 => " + m.block(typ) + ", 2 => " + m.block(typ) + ", _ => " + m.block(typ) + " }"
	}
	text := "match (" + m.value("E") + ") { "
	text += m.scoped(func() string { return "E::A(" + m.declare("Box<i32>", false) + ") => " + m.block(typ) + ", " })
	text += m.scoped(func() string {
		second := "_"
		if m.oneOf(2) {
			second = m.declare("Box<i32>", false)
		}
		return "E::B(" + m.declare("i32", false) + ", " + second + ") => " + m.block(typ) + ", "
	})
	return text + "_ => " + m.block(typ) + " }"
}

func (m *maker) statement() string {
	m.room--
	switch m.chance.Intn(14) {
	case 0, 1, 2:
		typ := m.anyType()
		value := m.value(typ)
		return "let mut " + m.declare(typ, true) + ": " + typ + " = " + value + ";"
	case 3, 4, 5:
		typ := m.anyType()
		if all := m.places(typ, true); len(all) > 0 {
			return all[m.chance.Intn(len(all))].text + " = " + m.value(typ) + ";"
		}
	case 6:
		text := "if " + m.condition() + " " + m.block("")
		if m.oneOf(2) {
			text += " else " + m.block("")
		}
		return text
	case 7:
		return m.loop("loop ")
	case 8:
		m.loops++
		condition := m.condition()
		m.loops--
		return m.loop("while " + condition + " ")
	case 9:
		return m.end()
	case 10, 11:
		return m.call("") + ";"
	case 12:
		return m.match("") + ";"
	}
	return "(" + m.value(m.anyType()) + ");"
}

func (m *maker) loop(head string) string {
	m.loops++
	text := head + m.block("")
	m.loops--
	return text
}

// end makes a statement that does not go on, at times.
func (m *maker) end() string {
	switch {
	case m.loops > 0 && m.oneOf(2):
		return m.pick("break;", "continue;")
	case m.oneOf(3):
		return "return;"
	case m.oneOf(6):
		return "loop {}"
	}
	return "();"
}

// program makes one with a function, whose params are there at first, that has as much in it as there is room for.
func program(seed int64, room int, plain bool) string {
	m := &maker{chance: rand.New(rand.NewSource(seed)), room: room, plain: plain}
	var params []string
	add := func(text, typ string, mut bool) {
		m.scope = append(m.scope, name{text, typ, mut})
		params = append(params, map[bool]string{true: "mut "}[mut]+text+": "+typ)
	}
	add("x", "i32", true)
	if plain {
		add("p", "P", true)
		add("l", "[i32; 2]", true)
	} else {
		for _, typ := range []string{"Box<i32>", "Box<i32>", "&mut i32", "&i32", "&mut Q", "&Q"} {
			add("a"+strconv.Itoa(len(params)), typ, !strings.HasPrefix(typ, "&"))
		}
	}
	text := ""
	for m.room > 0 {
		text += m.statement() + " "
	}
	return "fn it(" + strings.Join(params, ", ") + ") { " + text + "} fn main() {}" + others
}
