package lower_test

import (
	"math/rand"
	"slices"
	"strconv"
	"strings"
)

// made are the items that programs made by chance have beside their functions.
const made = `struct P { a: i32, b: u8 } struct Q { k: Box<i32>, p: P, n: u16 } struct W { e: E, a: [i32; 3], f: F } struct O { x: i16 } struct K1 { b: Box<u8> } struct Z {} struct G { u: (), g: [[u8; 2]; 2], z: Z, o: O }
enum E { N, A(i32), B(Box<i32>, u8), C(P, Box<P>) } enum F { X, Y(i8), Z(u32, bool) } enum L { N, C(i32, Box<L>) } enum C { R, S, T, U, V, W } enum M { A((), [i32; 3]), B(Q), C(E, F), D }
const K: i32 = 7;
fn i32_lent(x: &mut i32, y: &i32) -> i32 { print(*x); replace(x, *y) } fn P_lent(x: &mut P, y: &i32) -> P { print(x.b); x.a = *y; print(x.a); *x }
`

// The types that values are made of: those that are copied come first.
var (
	copiedTypes = []string{"i32", "i32", "i32", "u8", "i8", "u16", "i16", "u32", "bool", "()", "P", "F", "[i32; 3]", "[P; 2]", "[F; 2]", "O", "Z", "G", "C", "[[u8; 2]; 2]", "[O; 1]", "[(); 3]"}
	movedTypes  = []string{"Box<i32>", "Box<i32>", "Box<P>", "Box<Box<i32>>", "Box<[i32; 20]>", "Q", "W", "E", "E", "L", "L", "[Box<i32>; 2]", "[E; 2]", "Box<Q>", "Box<L>", "Box<E>", "K1", "[K1; 1]", "Box<()>", "Box<G>", "M", "Box<[u8; 65]>"}
	lentTypes   = []string{"&i32", "&mut i32", "&P", "&mut P", "&mut Q", "&Q", "&mut Box<i32>", "&mut L", "&mut E", "&[i32; 3]", "&mut [i32; 3]", "&mut W", "&mut [Box<i32>; 2]", "&()", "&mut O", "&i16", "&mut G", "&mut u8", "&K1", "&mut K1", "&mut C"}
	intTypes    = []string{"i8", "i16", "i32", "u8", "u16", "u32"}
)

// fieldsOf are the names and types of a struct's fields.
func fieldsOf(typ string) []string {
	return map[string][]string{"P": {"a", "i32", "b", "u8"}, "Q": {"k", "Box<i32>", "p", "P", "n", "u16"}, "W": {"e", "E", "a", "[i32; 3]", "f", "F"}, "O": {"x", "i16"}, "K1": {"b", "Box<u8>"}, "G": {"u", "()", "g", "[[u8; 2]; 2]", "z", "Z", "o", "O"}}[typ]
}

// variantsOf are the names of an enum's variants, and their types.
func variantsOf(typ string) [][]string {
	return map[string][][]string{"E": {{"N"}, {"A", "i32"}, {"B", "Box<i32>", "u8"}, {"C", "P", "Box<P>"}}, "F": {{"X"}, {"Y", "i8"}, {"Z", "u32", "bool"}}, "L": {{"N"}, {"C", "i32", "Box<L>"}}, "C": {{"R"}, {"S"}, {"T"}, {"U"}, {"V"}, {"W"}}, "M": {{"D"}, {"A", "()", "[i32; 3]"}, {"B", "Q"}, {"C", "E", "F"}}}[typ]
}

// elements are the type of an array's elements, and how many there are.
func elements(typ string) (string, string) {
	at := strings.LastIndex(typ, "; ")
	return typ[1:at], strings.TrimSuffix(typ[at+2:], "]")
}

func isCopied(typ string) bool { return slices.Contains(copiedTypes, typ) }

func isInt(typ string) bool { return slices.Contains(intTypes, typ) }

// name is a variable of a program that is made.
type name struct {
	text, typ string
	mut       bool
	moved     bool // by what was made so far
	locked    bool // borrowed by an argument of a call that is being made
	lent      bool // likewise, but an index of a later argument that borrows may do with it what it likes
	loops     int  // in how many loops it was declared
}

// free tells whether a variable may be used where a value is made next.
func (v *name) free() bool { return !v.locked && !v.lent }

// way is a place as it is written.
type way struct {
	text, typ string
	mut       bool
	root      *name
	held      bool // it is not within the variable: it stays if that is moved away
}

// signature is a function that may be called.
type signature struct {
	name   string
	params []string
	answer string
}

// maker makes programs by chance that nothing is against, but for some.
type maker struct {
	chance *rand.Rand
	scope  []*name
	calls  []signature
	answer string
	names  int
	loops  int
	room   int // how much may still be made, roughly
	deep   int // in how many values and blocks the next one stands
}

func (m *maker) oneOf(n int) bool { return m.chance.Intn(n) == 0 }

func (m *maker) pick(list ...string) string { return list[m.chance.Intn(len(list))] }

func (m *maker) anyType() string {
	if m.oneOf(2) {
		return m.pick(movedTypes...)
	}
	return m.pick(copiedTypes...)
}

func (m *maker) declare(typ string, mut bool) string {
	m.names++
	v := &name{text: "v" + strconv.Itoa(m.names), typ: typ, mut: mut, loops: m.loops}
	m.scope = append(m.scope, v)
	return v.text
}

// parts tells the places one step on from one.
func (m *maker) parts(p way) []way {
	on := func(text, typ string) way { return way{text, typ, p.mut, p.root, p.held} }
	var all []way
	for list := fieldsOf(p.typ); len(list) > 0; list = list[2:] {
		all = append(all, on(p.text+"."+list[0], list[1]))
	}
	switch {
	case strings.HasPrefix(p.typ, "["):
		elem, n := elements(p.typ)
		all = append(all, on(p.text+"["+m.index(n)+"]", elem))
	case strings.HasPrefix(p.typ, "Box<"):
		all = append(all, way{"(*" + p.text + ")", p.typ[4 : len(p.typ)-1], p.mut, p.root, true})
	case strings.HasPrefix(p.typ, "&mut "):
		all = append(all, way{"(*" + p.text + ")", p.typ[5:], true, p.root, true})
	case strings.HasPrefix(p.typ, "&"):
		all = append(all, way{"(*" + p.text + ")", p.typ[1:], false, p.root, true})
	}
	return all
}

// index makes one that is mostly in the range of N.
func (m *maker) index(n string) string {
	most, _ := strconv.Atoi(n)
	for _, v := range m.scope {
		if isInt(v.typ) && v.free() && m.oneOf(8) {
			return v.text
		}
	}
	switch {
	case m.oneOf(30):
		return m.pick("-1", n, "K", n+"u8", "4294967295u32", "-128i8")
	case m.oneOf(8):
		return "(" + m.pick("read() % "+n, "(read() & 1)", "K - 7") + ")"
	}
	return strconv.Itoa(m.chance.Intn(most)) + m.pick("", "", "u8", "i16", "u32")
}

// ways tells the places of a type that can be reached from variables.
func (m *maker) ways(typ string, mut bool) []way {
	var all []way
	var on func(p way, deep int)
	on = func(p way, deep int) {
		if p.typ == typ && (p.mut || !mut) {
			all = append(all, p)
		}
		if deep > 0 && m.oneOf(2) {
			for _, q := range m.parts(p) {
				on(q, deep-1)
			}
		}
	}
	for _, v := range m.scope {
		if !v.moved && v.free() {
			on(way{v.text, v.typ, v.mut, v, false}, 4)
		}
	}
	return all
}

// value makes a tree of a type.
func (m *maker) value(typ string) string {
	m.deep++
	defer func() { m.deep-- }()
	m.room--
	if m.room <= 0 || m.deep > 8 {
		if m.oneOf(3) {
			return m.leaf(typ)
		}
		return m.placeValue(typ)
	}
	// Deep within others values without blocks are made, so that the room is not all used up there.
	switch m.chance.Intn(max(11, 14-m.deep/3)) {
	case 0, 1, 2, 3, 4:
		return m.placeValue(typ)
	case 5, 6:
		return m.signed(typ)
	case 7, 8:
		return m.call(typ)
	case 9, 10:
		return m.leaf(typ)
	case 11:
		return m.block(typ)
	case 12:
		return m.match(typ)
	}
	return "if " + m.condition() + " " + m.either(typ, m.block, m.block)
}

// either makes two branches of which one is run.
func (m *maker) either(typ string, first, second func(typ string) string) string {
	texts := m.branches(func() string { return first(typ) }, func() string { return second(typ) })
	return texts[0] + " else " + texts[1]
}

// branches makes ways of which one is run: moved away is what is so behind any.
func (m *maker) branches(list ...func() string) []string {
	ahead := m.moved()
	behind := map[*name]bool{}
	var texts []string
	for _, make := range list {
		m.setMoved(ahead)
		texts = append(texts, make())
		for v, is := range m.moved() {
			behind[v] = behind[v] || is
		}
	}
	m.setMoved(behind)
	return texts
}

// perhaps makes what may not be run.
func (m *maker) perhaps(make func() string) string {
	return m.branches(make, func() string { return "" })[0]
}

func (m *maker) moved() map[*name]bool {
	all := map[*name]bool{}
	for _, v := range m.scope {
		all[v] = v.moved
	}
	return all
}

func (m *maker) setMoved(all map[*name]bool) {
	for _, v := range m.scope {
		v.moved = all[v]
	}
}

// placeValue makes the value of a place: of a type that is not copied it is a variable's, which is moved away.
func (m *maker) placeValue(typ string) string {
	var all []way
	for _, p := range m.ways(typ, false) {
		if isCopied(typ) || p.text == p.root.text && p.root.loops == m.loops {
			all = append(all, p)
		}
	}
	if len(all) == 0 {
		return m.leaf(typ)
	}
	p := all[m.chance.Intn(len(all))]
	p.root.moved = !isCopied(typ)
	return p.text
}

func (m *maker) number(typ string) string {
	n := m.pick("0", "1", "2", "3", "5", "7", "100")
	if m.oneOf(12) {
		n = map[string]string{"i8": "127", "u8": "255", "i16": "-32768", "u16": "65535", "i32": "2147483647", "u32": "4294967295"}[typ]
	} else if typ[0] == 'i' && m.oneOf(4) {
		n = "-" + n
	}
	return n + typ
}

// leaf makes a value of new ones.
func (m *maker) leaf(typ string) string {
	switch {
	case isInt(typ):
		if typ == "i32" && m.oneOf(6) {
			return m.pick("K", "read()")
		}
		return m.number(typ)
	case strings.HasPrefix(typ, "Box<"):
		return "Box::new(" + m.value(typ[4:len(typ)-1]) + ")"
	case strings.HasPrefix(typ, "["):
		return m.array(typ)
	case typ == "bool":
		return m.pick("true", "false")
	case typ == "()" || typ == "":
		return "()"
	case variantsOf(typ) != nil:
		return m.variant(typ)
	}
	return m.fields(typ, fieldsOf(typ))
}

func (m *maker) array(typ string) string {
	elem, n := elements(typ)
	count, _ := strconv.Atoi(n)
	if isCopied(elem) && (count > 3 || m.oneOf(2)) {
		return "[" + m.value(elem) + "; " + n + "]"
	}
	var list []string
	for range count {
		list = append(list, m.value(elem))
	}
	return "[" + strings.Join(list, ", ") + "]"
}

// fields makes a struct; its fields come in any order.
func (m *maker) fields(text string, list []string) string {
	var inits []string
	for _, k := range m.chance.Perm(len(list) / 2) {
		inits = append(inits, list[2*k]+": "+m.value(list[2*k+1]))
	}
	return "(" + text + " { " + strings.Join(inits, ", ") + " })"
}

func (m *maker) variant(typ string) string {
	all := variantsOf(typ)
	v := all[m.chance.Intn(len(all))]
	if m.room <= 0 || m.deep > 8 {
		v = all[0]
	}
	return typ + "::" + v[0] + m.list(v[1:], m.value)
}

// list makes what stands in brackets behind a name, if anything does.
func (m *maker) list(types []string, make func(typ string) string) string {
	if len(types) == 0 {
		return ""
	}
	var all []string
	for _, typ := range types {
		all = append(all, make(typ))
	}
	return "(" + strings.Join(all, ", ") + ")"
}

// condition makes a bool where no struct may be written outside brackets.
func (m *maker) condition() string { return "(" + m.value("bool") + ")" }

func (m *maker) signed(typ string) string {
	switch {
	case isInt(typ):
		return m.signedInt(typ)
	case typ == "bool":
		of := m.pick(intTypes...)
		switch m.chance.Intn(4) {
		case 0:
			return "(" + m.value("bool") + m.pick(" && ", " || ") + m.perhaps(func() string { return m.value("bool") }) + ")"
		case 1:
			return "(" + m.value("bool") + m.pick(" & ", " | ", " ^ ", " == ", " != ") + m.value("bool") + ")"
		case 2:
			return "(!" + m.value("bool") + ")"
		}
		return "(" + m.value(of) + m.pick(" == ", " != ", " < ", " <= ", " > ", " >= ") + m.value(of) + ")"
	case slices.Contains(movedTypes, "Box<"+typ+">"):
		return "unbox(" + m.value("Box<"+typ+">") + ")"
	}
	return m.leaf(typ)
}

func (m *maker) signedInt(typ string) string {
	switch m.chance.Intn(8) {
	case 0:
		return "(" + m.value(typ) + m.pick(" + ", " - ", " * ") + m.value(typ) + ")"
	case 1:
		return "(" + m.value(typ) + m.pick(" / ", " % ") + m.value(typ) + ")"
	case 2:
		return "(" + m.value(typ) + m.pick(" << ", " >> ") + m.pick("1", "3u8", "7i16", "8", m.value("u8")) + ")"
	case 3:
		return "((" + m.value(m.pick("bool", "i32", "u8", "i16", "u32")) + ") as " + typ + ")"
	case 4:
		return "(!" + m.value(typ) + ")"
	case 5:
		if typ[0] == 'i' {
			return "(-(" + m.value(typ) + "))"
		}
	}
	return "(" + m.value(typ) + m.pick(" & ", " | ", " ^ ") + m.value(typ) + ")"
}
