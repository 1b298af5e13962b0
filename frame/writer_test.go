package frame_test

import (
	"math/rand"
	"strconv"
	"strings"
)

// Programs made by chance, of locals of many types, some of whose scalars are borrowed.

const madeItems = `struct P { a: i32, b: u8 } struct Z {} struct Q { p: P, k: Box<i32>, l: [i32; 3], z: Z } enum E { N, A(i32), B(Box<i32>, P) }
fn more(x: &mut i32) { *x = (*x ^ 5) & 1023; } fn less(x: &mut u8) -> u8 { *x = *x / 2; *x } fn seen(x: &i32, y: &u8) -> i32 { *x / 2 + (*y as i32) } fn turned(p: &mut P) -> P { p.a = p.a / 2 - (p.b as i32); *p }
fn let_go(b: Box<i32>) -> i32 { *b } fn of(e: E) -> i32 { match e { E::N => 0, E::A(n) => n / 2, E::B(b, p) => *b / 4 + p.a / 4 } }
`

var madeTypes = []string{"i32", "i32", "i32", "u8", "u8", "bool", "()", "P", "Q", "E", "Z", "[i32; 3]", "[P; 2]", "Box<i32>", "Box<P>", "[u8; 5]", "[[u8; 2]; 3]"}

// variable is one of a program that is made; one that is moved away is not used again.
type variable struct {
	name, typ string
	moved     bool
}

type writer struct {
	*rand.Rand
	names int
	scope []*variable
	calls []string // functions that may be called, each with a number
}

func (m *writer) pick(list ...string) string { return list[m.Intn(len(list))] }

// places are the texts of places of a type, in variables.
func (m *writer) places(typ string) []string {
	parts := map[string]map[string][]string{
		"i32": {"i32": {""}, "P": {".a"}, "Q": {".p.a", ".l[1]", ".l[read() & 1]"}, "[i32; 3]": {"[0]", "[2]", "[read() & 1]"}, "[P; 2]": {"[1].a", "[read() & 1].a"}},
		"u8":  {"u8": {""}, "P": {".b"}, "Q": {".p.b"}, "[u8; 5]": {"[4]", "[read() & 3]"}, "[[u8; 2]; 3]": {"[2][1]", "[read() & 1][read() & 1]"}},
		"P":   {"P": {""}, "Q": {".p"}, "[P; 2]": {"[0]", "[read() & 1]"}},
	}[typ]
	var all []string
	for _, x := range m.scope {
		if x.moved {
			continue
		}
		for _, part := range parts[x.typ] {
			all = append(all, x.name+part)
		}
		if x.typ == "Box<"+typ+">" {
			all = append(all, "*"+x.name)
		}
	}
	return all
}

// place is one of a type: there is always one, as functions begin with some.
func (m *writer) place(typ string) string { return m.pick(m.places(typ)...) }

// value makes a tree of a type.
func (m *writer) value(typ string) string {
	switch typ {
	case "i32":
		number := strconv.Itoa(m.Intn(4000) - 2000)
		return m.pick(number, "read()", m.place("i32"), "("+m.place("i32")+") / 2 + "+number, "seen(&("+m.place("i32")+"), &("+m.place("u8")+"))", m.call())
	case "u8":
		return m.pick("200", "7", m.place("u8"), "("+m.place("u8")+") / 3", "less(&mut "+m.place("u8")+")")
	case "bool":
		return m.pick("true", m.place("i32")+" > 3", m.place("u8")+" != 0 && "+m.place("i32")+" < 100")
	case "()":
		return "()"
	case "P":
		return m.pick("P { a: "+m.value("i32")+", b: "+m.value("u8")+" }", m.place("P"), "turned(&mut "+m.place("P")+")")
	case "Q":
		return "Q { p: " + m.value("P") + ", k: " + m.value("Box<i32>") + ", l: " + m.value("[i32; 3]") + ", z: Z {} }"
	case "E":
		return m.pick("E::N", "E::A("+m.value("i32")+")", "E::B("+m.value("Box<i32>")+", "+m.value("P")+")")
	case "Z":
		return "Z {}"
	case "[[u8; 2]; 3]":
		return "[" + m.pick("[1, 2]", "[3; 2]") + "; 3]"
	}
	if strings.HasPrefix(typ, "Box<") {
		return "Box::new(" + m.value(typ[4:len(typ)-1]) + ")"
	}
	elem, many, _ := strings.Cut(typ[1:len(typ)-1], "; ")
	return "[" + m.value(elem) + "; " + many + "]"
}

func (m *writer) call() string {
	if len(m.calls) == 0 {
		return "1"
	}
	return m.pick(m.calls...) + "(" + m.place("i32") + " / 2, " + m.place("P") + ", &mut " + m.place("u8") + ")"
}

func (m *writer) declare(typ string) string {
	value := m.value(typ)
	m.names++
	x := &variable{name: "v" + strconv.Itoa(m.names), typ: typ}
	m.scope = append(m.scope, x)
	return "let mut " + x.name + ": " + typ + " = " + value + ";"
}

// block makes some statements; what is declared in it ends there.
func (m *writer) block(many int) string {
	outside := len(m.scope)
	text := "{ "
	for range many {
		text += m.statement(many/2) + " "
	}
	m.scope = m.scope[:outside]
	return text + "}"
}

func (m *writer) statement(room int) string {
	switch m.Intn(9) {
	case 0, 1, 2:
		return m.declare(m.pick(madeTypes...))
	case 3:
		typ := m.pick("i32", "u8", "P")
		return m.place(typ) + " = " + m.value(typ) + ";"
	case 4:
		return "more(&mut " + m.place("i32") + ");"
	case 5:
		return "if " + m.value("bool") + " " + m.block(room) + " else " + m.block(room)
	case 6:
		m.names++
		name := "n" + strconv.Itoa(m.names)
		return "let mut " + name + " = 0; while " + name + " < 3 { " + name + " = " + name + " + 1; " + m.block(room)[2:]
	case 7:
		return m.ended()
	}
	return "print(" + m.value(m.pick("i32", "u8")) + ");"
}

// ended makes a statement that moves away what is made for it, or a variable that was declared just ahead, at times on one way alone.
func (m *writer) ended() string {
	typ := m.pick("Box<i32>", "E")
	text := m.declare(typ)
	x := m.scope[len(m.scope)-1]
	x.moved = true
	use := "print(" + map[string]string{"E": "of", "Box<i32>": "let_go"}[typ] + "(" + x.name + "));"
	return text + m.pick(use, "", " if "+m.value("bool")+" { "+use+" }")
}

// function makes one that is given a number, a struct and a borrow, or, of main, nothing.
func (m *writer) function(name, head, tail string, many int) string {
	m.scope = []*variable{{name: "n", typ: "i32"}, {name: "p", typ: "P"}, {name: "u", typ: "u8"}}
	return "fn " + name + head + " " + m.block(many) + tail + "\n"
}

// program makes one of some functions, each of which calls those behind it.
func program(seed int64, many int) string {
	m := &writer{Rand: rand.New(rand.NewSource(seed))}
	text := ""
	for k := range m.Intn(3) {
		name := "f" + strconv.Itoa(k)
		text += m.function(name, "(mut n: i32, mut p: P, lent: &mut u8) -> i32 { let mut u = *lent;", " *lent = u / 2; more(&mut n); n / 2 }", many)
		m.calls = append(m.calls, name)
	}
	return madeItems + text + m.function("main", "() { let mut n = read(); let mut p = P { a: 1, b: 2 }; let mut u = 9u8;", " print(n); print(u); }", many)
}
