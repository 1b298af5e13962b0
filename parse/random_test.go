package parse

import (
	"math/rand"
	"slices"
	"strings"
	"testing"

	"ferrule/api"
	"ferrule/lex"
)

// maker makes programs by chance: their tokens, and what these must be parsed to, with tokens counted instead of bytes as places.
type maker struct {
	chance *rand.Rand
	tokens []string
}

// where says what a tree may not begin with, or hold: see the chapter on conds, and on statements that are closed.
type where struct{ cond, first bool }

func (m *maker) put(text string) int {
	m.tokens = append(m.tokens, text)
	return len(m.tokens) - 1
}

func (m *maker) one(texts ...string) string { return texts[m.chance.Intn(len(texts))] }

// often holds once in so many times.
func (m *maker) often(times int) bool { return m.chance.Intn(times) == 0 }

func (m *maker) name() string { return m.one("a", "b", "S", "_", "Box", "u8", "print", "fnx") }

func (m *maker) list(closing string, make func()) {
	times := m.chance.Intn(4)
	for i := range times {
		make()
		if i < times-1 || m.often(2) {
			m.put(",")
		}
	}
	m.put(closing)
}

func (m *maker) typed(room int) api.Type {
	choice := m.chance.Intn(6)
	if room <= 0 {
		choice = m.chance.Intn(2)
	}
	switch choice {
	case 0:
		word := m.one("bool", "i8", "i16", "i32", "u8", "u16", "u32")
		m.put(word)
		return api.Type{Kind: api.TyBool + slices.Index([]string{"bool", "i8", "i16", "i32", "u8", "u16", "u32"}, word)}
	case 1:
		if m.often(4) {
			m.put("(")
			m.put(")")
			return api.Type{Kind: api.TyUnit}
		}
		name := m.one("S", "_", "a")
		m.put(name)
		return api.Type{Kind: api.TyNamed, Name: name}
	case 2:
		m.put("[")
		elem := m.typed(room - 1)
		m.put(";")
		n := m.chance.Intn(65536)
		m.put(itoa(n))
		m.put("]")
		return api.Type{Kind: api.TyArray, N: n, Elem: []api.Type{elem}}
	case 3:
		m.put("&")
		kind := api.TyRef
		if m.often(2) {
			m.put("mut")
			kind = api.TyMut
		}
		return api.Type{Kind: kind, Elem: []api.Type{m.typed(room - 1)}}
	}
	m.put("Box")
	m.put("<")
	elem := m.typed(room - 1)
	m.put(">")
	return api.Type{Kind: api.TyBox, Elem: []api.Type{elem}}
}

func (m *maker) tree(rank, room int, w where) api.Expr {
	if rank == len(rankSigns) {
		return m.cast(room, w)
	}
	if room <= 0 || !m.often(7) {
		return m.tree(rank+1, room, w)
	}
	left := rank
	if rank == 2 {
		left++
	}
	x := api.Expr{Kind: api.ExBin, Text: m.one(strings.Fields(rankSigns[rank])...)}
	x.Kids = append(x.Kids, m.tree(left, room-1, w))
	x.At = m.put(x.Text)
	x.Kids = append(x.Kids, m.tree(rank+1, room-1, where{cond: w.cond}))
	return x
}

func (m *maker) cast(room int, w where) api.Expr {
	x := m.operand(room, w)
	for m.often(8) {
		at := m.put("as")
		x = api.Expr{Kind: api.ExCast, At: at, Kids: []api.Expr{x}, Ty: []api.Type{m.typed(room)}}
	}
	return x
}

func (m *maker) operand(room int, w where) api.Expr {
	if room > 0 && m.often(5) {
		sign := m.one("-", "!", "*", "&")
		kinds := map[string]int{"-": api.ExNeg, "!": api.ExNot, "*": api.ExDeref, "&": api.ExBorrow}
		x := api.Expr{Kind: kinds[sign], At: m.put(sign)}
		if sign == "&" && m.often(2) {
			m.put("mut")
			x.Num = 1
		}
		x.Kids = []api.Expr{m.operand(room-1, where{cond: w.cond})}
		return x
	}
	x := m.primary(room, w)
	for room > 0 && m.often(5) {
		if m.often(2) {
			x = api.Expr{Kind: api.ExField, At: m.put("."), Text: m.name(), Kids: []api.Expr{x}}
			m.put(x.Text)
			continue
		}
		at := m.put("[")
		x = api.Expr{Kind: api.ExIndex, At: at, Kids: []api.Expr{x, m.tree(0, room-1, where{})}}
		m.put("]")
	}
	return x
}

func (m *maker) primary(room int, w where) api.Expr {
	if room <= 0 || m.often(3) {
		return m.leaf()
	}
	switch m.chance.Intn(6) {
	case 0:
		m.put("(")
		x := m.tree(0, room-1, where{})
		m.put(")")
		return x
	case 1:
		return m.array(room)
	case 2:
		if !w.cond {
			x := api.Expr{Kind: api.ExStruct, Text: m.name()}
			x.At = m.put(x.Text)
			m.put("{")
			m.list("}", func() {
				init := api.Expr{Kind: api.ExInit, Text: m.name()}
				init.At = m.put(init.Text)
				m.put(":")
				init.Kids = []api.Expr{m.tree(0, room-1, where{})}
				x.Kids = append(x.Kids, init)
			})
			return x
		}
	case 3:
		if !w.first {
			return m.closed(room)
		}
	}
	return m.named(room)
}

func (m *maker) leaf() api.Expr {
	switch m.chance.Intn(5) {
	case 0:
		v, kind := m.chance.Intn(1<<32), m.one("", "", "", "i8", "i16", "i32", "u8", "u16", "u32")
		return api.Expr{Kind: api.ExInt, Num: v, Text: kind, At: m.put(itoa(v) + kind)}
	case 1:
		return api.Expr{Kind: api.ExBool, Num: 1, At: m.put("true")}
	case 2:
		return api.Expr{Kind: api.ExBool, At: m.put("false")}
	case 3:
		at := m.put("(")
		m.put(")")
		return api.Expr{Kind: api.ExUnit, At: at}
	}
	name := m.name()
	return api.Expr{Kind: api.ExVar, Text: name, At: m.put(name)}
}

func (m *maker) named(room int) api.Expr {
	name := m.name()
	x := api.Expr{Kind: api.ExCall, Text: name, At: m.put(name)}
	if m.often(2) {
		x.Kind = api.ExVariant
		m.put("::")
		name = m.name()
		m.put(name)
		x.Text += "::" + name
		if m.often(3) {
			return x
		}
	}
	m.put("(")
	m.list(")", func() { x.Kids = append(x.Kids, m.tree(0, room-1, where{})) })
	return x
}

func (m *maker) array(room int) api.Expr {
	x := api.Expr{Kind: api.ExArray, At: m.put("[")}
	if m.often(2) {
		m.list("]", func() { x.Kids = append(x.Kids, m.tree(0, room-1, where{})) })
		return x
	}
	x.Kind, x.Num = api.ExRepeat, m.chance.Intn(65536)
	x.Kids = []api.Expr{m.tree(0, room-1, where{})}
	m.put(";")
	m.put(itoa(x.Num))
	m.put("]")
	return x
}

func (m *maker) closed(room int) api.Expr {
	switch m.chance.Intn(3) {
	case 0:
		return m.block(room - 1)
	case 1:
		return m.ifs(room)
	}
	x := api.Expr{Kind: api.ExMatch, At: m.put("match")}
	x.Kids = []api.Expr{m.tree(0, room-1, where{cond: true})}
	m.put("{")
	m.list("}", func() {
		pattern := m.pattern()
		m.put("=>")
		x.Kids = append(x.Kids, api.Expr{Kind: api.ExArm, At: pattern.At, Kids: []api.Expr{pattern, m.tree(0, room-1, where{})}})
	})
	return x
}

func (m *maker) ifs(room int) api.Expr {
	x := api.Expr{Kind: api.ExIf, At: m.put("if")}
	x.Kids = append(x.Kids, m.tree(0, room-1, where{cond: true}))
	x.Kids = append(x.Kids, m.block(room-1))
	switch m.chance.Intn(3) {
	case 0:
		m.put("else")
		x.Kids = append(x.Kids, m.block(room-1))
	case 1:
		m.put("else")
		x.Kids = append(x.Kids, m.ifs(room-1))
	}
	return x
}

func (m *maker) signed() (int, int) {
	at, v := len(m.tokens), m.chance.Intn(1<<32)
	minus := m.often(2)
	if minus {
		m.put("-")
	}
	m.put(itoa(v) + m.one("", "", "i16", "u32"))
	if minus {
		v = -v
	}
	return at, v
}

func (m *maker) pattern() api.Expr {
	switch m.chance.Intn(5) {
	case 0:
		return api.Expr{Kind: api.PaAny, At: m.put("_")}
	case 1:
		return api.Expr{Kind: api.PaBool, Num: 1, At: m.put("true")}
	case 2:
		return api.Expr{Kind: api.PaBool, At: m.put("false")}
	case 3:
		at, v := m.signed()
		return api.Expr{Kind: api.PaInt, Num: v, At: at}
	}
	enum, variant := m.one("E", "Box", "a"), m.one("A", "new", "u8")
	x := api.Expr{Kind: api.PaVariant, Text: enum + "::" + variant, At: m.put(enum)}
	m.put("::")
	m.put(variant)
	if m.often(2) {
		m.put("(")
		m.list(")", func() {
			name := m.name()
			x.Kids = append(x.Kids, api.Expr{Kind: api.PaBind, Text: name, At: m.put(name)})
		})
	}
	return x
}

func (m *maker) block(room int) api.Expr {
	x := api.Expr{Kind: api.ExBlock, At: m.put("{")}
	for range m.chance.Intn(4) {
		x.Kids = append(x.Kids, m.statement(room))
	}
	last := len(x.Kids) - 1
	// A closed statement without its ; is the value, if nothing comes behind it.
	if last >= 0 && x.Kids[last].Kind == api.ExStmt && m.tokens[len(m.tokens)-1] == "}" {
		x.Kids[last], x.Num = x.Kids[last].Kids[0], 1
	} else if m.often(3) {
		x.Kids, x.Num = append(x.Kids, m.tree(0, room-1, where{first: true})), 1
	}
	m.put("}")
	return x
}

func (m *maker) statement(room int) api.Expr {
	at := len(m.tokens)
	switch m.chance.Intn(9) {
	case 0, 1:
		return m.let(room)
	case 2:
		m.put("while")
		asked := m.tree(0, room-1, where{cond: true})
		return api.Expr{Kind: api.ExWhile, At: at, Kids: []api.Expr{asked, m.block(room - 1)}}
	case 3:
		m.put("loop")
		return api.Expr{Kind: api.ExLoop, At: at, Kids: []api.Expr{m.block(room - 1)}}
	case 4:
		word := m.one("break", "continue", "return")
		m.put(word)
		m.put(";")
		return api.Expr{Kind: map[string]int{"break": api.ExBreak, "continue": api.ExNext, "return": api.ExReturn}[word], At: at}
	case 5:
		m.put("return")
		x := m.tree(0, room-1, where{})
		m.put(";")
		return api.Expr{Kind: api.ExReturn, At: at, Kids: []api.Expr{x}}
	case 6:
		left := m.tree(0, room-1, where{first: true})
		sign := m.put("=")
		right := m.tree(0, room-1, where{})
		m.put(";")
		return api.Expr{Kind: api.ExAssign, At: sign, Kids: []api.Expr{left, right}}
	case 7:
		x := m.closed(room)
		if m.often(2) {
			m.put(";")
		}
		return api.Expr{Kind: api.ExStmt, At: at, Kids: []api.Expr{x}}
	}
	x := m.tree(0, room-1, where{first: true})
	m.put(";")
	return api.Expr{Kind: api.ExStmt, At: at, Kids: []api.Expr{x}}
}

func (m *maker) let(room int) api.Expr {
	x := api.Expr{Kind: api.ExLet, At: m.put("let"), Text: m.name()}
	if m.often(2) {
		m.put("mut")
		x.Num = 1
	}
	m.put(x.Text)
	if m.often(2) {
		m.put(":")
		x.Ty = []api.Type{m.typed(4)}
	}
	m.put("=")
	x.Kids = []api.Expr{m.tree(0, room-1, where{})}
	m.put(";")
	return x
}

func (m *maker) field(mut bool) api.Param {
	p := api.Param{Name: m.name(), Mut: mut}
	if mut {
		m.put("mut")
	}
	p.At = m.put(p.Name)
	m.put(":")
	p.Type = m.typed(4)
	return p
}

func (m *maker) item(room int) api.Item {
	it := api.Item{Kind: 1 + m.chance.Intn(4), Name: m.name()}
	m.put(itemKinds[it.Kind])
	it.At = m.put(it.Name)
	switch it.Kind {
	case api.ItFunc:
		m.put("(")
		m.list(")", func() { it.Params = append(it.Params, m.field(m.often(2))) })
		it.Type = api.Type{Kind: api.TyUnit}
		if m.often(2) {
			m.put("->")
			it.Type = m.typed(4)
		}
		it.Body = m.block(room)
	case api.ItStruct:
		m.put("{")
		m.list("}", func() { it.Params = append(it.Params, m.field(false)) })
	case api.ItEnum:
		m.put("{")
		m.list("}", func() {
			v := api.Variant{Name: m.name()}
			v.At = m.put(v.Name)
			if m.often(2) {
				m.put("(")
				m.list(")", func() { v.Types = append(v.Types, m.typed(4)) })
			}
			it.Variants = append(it.Variants, v)
		})
	default:
		m.put(":")
		it.Type = m.typed(4)
		m.put("=")
		_, it.Num = m.signed()
		m.put(";")
	}
	return it
}

// write tells the tokens as a text with blanks by chance between, as few as may be if they are sparse, and where each one begins.
func (m *maker) write(sparse bool) (string, []int) {
	var text strings.Builder
	var places []int
	for i, token := range m.tokens {
		if i > 0 && !touch(m.tokens[i-1], token) {
			text.WriteString(m.one(" ", "\n", "\t", "\r", " //\n"))
		}
		if !sparse {
			text.WriteString(m.one("", " ", "\n", "\t\r ", "\n// fn ) #\xff\n", "  //\n//\n"))
		}
		places = append(places, text.Len())
		text.WriteString(token)
	}
	text.WriteString(m.one("", " ", " // x", " //\n"))
	return text.String(), places
}

// touch tells whether two tokens may stand without a blank between: they are lexed as themselves, or are two > of which >> counts as both.
func touch(a, b string) bool {
	tokens, _, e := lex.Lex(a + b)
	return e == api.OK && len(tokens) == 2 && tokens[0].Text == a && tokens[1].Text == b || a == ">" && b == ">"
}

func placeTree(x *api.Expr, places []int) {
	x.At = places[x.At]
	for i := range x.Kids {
		placeTree(&x.Kids[i], places)
	}
}

func copyTree(x api.Expr) api.Expr {
	x.Kids = slices.Clone(x.Kids)
	for i := range x.Kids {
		x.Kids[i] = copyTree(x.Kids[i])
	}
	return x
}

func placeItem(it *api.Item, places []int) {
	it.At = places[it.At]
	for i := range it.Params {
		it.Params[i].At = places[it.Params[i].At]
	}
	for i := range it.Variants {
		it.Variants[i].At = places[it.Variants[i].At]
	}
	if it.Kind == api.ItFunc {
		placeTree(&it.Body, places)
	}
}

func copyItem(it api.Item) api.Item {
	it.Params, it.Variants, it.Body = slices.Clone(it.Params), slices.Clone(it.Variants), copyTree(it.Body)
	return it
}

// P3.1 and P3.2: whatever blanks stand between the tokens, the same trees are told, with the places at which their tokens begin.

func TestTreesByChance(t *testing.T) {
	for turn := range 4000 {
		m := &maker{chance: rand.New(rand.NewSource(int64(turn)))}
		made := m.tree(0, turn%7, where{})
		for _, sparse := range []bool{true, false} {
			text, places := m.write(sparse)
			want := copyTree(made)
			placeTree(&want, places)
			wantTree(t, text, tellTree(want))
		}
		if t.Failed() {
			return
		}
	}
}

func TestProgramsByChance(t *testing.T) {
	for turn := range 1500 {
		m := &maker{chance: rand.New(rand.NewSource(int64(turn)))}
		var made []api.Item
		for range m.chance.Intn(4) {
			made = append(made, m.item(turn%5))
		}
		for _, sparse := range []bool{true, false} {
			text, places := m.write(sparse)
			want := make([]api.Item, len(made))
			for i, it := range made {
				want[i] = copyItem(it)
				placeItem(&want[i], places)
			}
			if len(text) <= api.MaxText {
				wantItems(t, text, tellItems(want))
			}
		}
		if t.Failed() {
			return
		}
	}
}
