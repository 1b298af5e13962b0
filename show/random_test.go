package show

import (
	"math"
	"math/rand"
	"regexp"
	"slices"
	"strings"
	"testing"

	"ferrule/api"
)

// maker makes trees by chance: those that a text has, and changes of them.
type maker struct{ chance *rand.Rand }

func newMaker(seed int) *maker { return &maker{rand.New(rand.NewSource(int64(seed)))} }

func (m *maker) one(texts ...string) string { return texts[m.chance.Intn(len(texts))] }

// often holds once in so many times.
func (m *maker) often(times int) bool { return m.chance.Intn(times) == 0 }

func (m *maker) name() string { return m.one("a", "b", "S", "_", "Box", "u8", "fnx") }

func (m *maker) typed(room int) api.Type {
	if room <= 0 || m.often(3) {
		if m.often(3) {
			return tyNamed(m.one("S", "_", "a"))
		}
		return ty(api.TyUnit + m.chance.Intn(8))
	}
	elem := m.typed(room - 1)
	switch m.chance.Intn(5) {
	case 0:
		return tyArray(m.chance.Intn(65536), elem)
	case 1:
		return ty(api.TyRef, elem)
	case 2:
		return ty(api.TyMut, elem)
	}
	return ty(api.TyBox, elem)
}

func (m *maker) trees(room int) []api.Expr {
	var list []api.Expr
	for range m.chance.Intn(4) {
		list = append(list, m.tree(room))
	}
	return list
}

func (m *maker) leaf() api.Expr {
	switch m.chance.Intn(6) {
	case 0:
		return numbered(ex(api.ExInt, m.one("", "", "i8", "i16", "i32", "u8", "u16", "u32")), m.chance.Intn(1<<32))
	case 1:
		return numbered(ex(api.ExBool, ""), m.chance.Intn(2))
	case 2:
		return ex(api.ExUnit, "")
	case 3:
		return ex(api.ExStruct, m.name())
	}
	return named(m.name())
}

func (m *maker) tree(room int) api.Expr {
	if room <= 0 {
		return m.leaf()
	}
	room--
	switch m.chance.Intn(16) {
	case 0:
		return ex(m.chance.Intn(3)+api.ExNeg, "", m.tree(room))
	case 1:
		return numbered(ex(api.ExBorrow, "", m.tree(room)), m.chance.Intn(2))
	case 2, 3, 4, 5:
		sign := m.one("||", "&&", "==", "!=", "<", "<=", ">", ">=", "|", "^", "&", "<<", ">>", "+", "-", "*", "/", "%")
		return bin(sign, m.tree(room), m.tree(room))
	case 6:
		return typed(ex(api.ExCast, "", m.tree(room)), m.typed(3))
	case 7:
		return ex(api.ExCall, m.name(), m.trees(room)...)
	case 8:
		return ex(api.ExField, m.name(), m.tree(room))
	case 9:
		return ex(api.ExIndex, "", m.tree(room), m.tree(room))
	case 10:
		x := ex(api.ExStruct, m.name())
		for _, kid := range m.trees(room) {
			x.Kids = append(x.Kids, ex(api.ExInit, m.name(), kid))
		}
		return x
	case 11:
		return ex(api.ExVariant, m.name()+"::"+m.name(), m.trees(room)...)
	case 12:
		if m.often(2) {
			return ex(api.ExArray, "", m.trees(room)...)
		}
		return numbered(ex(api.ExRepeat, "", m.tree(room)), m.chance.Intn(65536))
	}
	return m.closed(room)
}

func (m *maker) closed(room int) api.Expr {
	switch m.chance.Intn(3) {
	case 0:
		return m.block(room)
	case 1:
		return m.ifs(room)
	}
	x := ex(api.ExMatch, "", m.tree(room))
	for range m.chance.Intn(4) {
		x.Kids = append(x.Kids, ex(api.ExArm, "", m.pattern(), m.tree(room)))
	}
	return x
}

func (m *maker) ifs(room int) api.Expr {
	x := ex(api.ExIf, "", m.tree(room), m.block(room))
	switch m.chance.Intn(3) {
	case 0:
		x.Kids = append(x.Kids, m.block(room))
	case 1:
		x.Kids = append(x.Kids, m.ifs(room-1))
	}
	return x
}

func (m *maker) pattern() api.Expr {
	switch m.chance.Intn(4) {
	case 0:
		return ex(api.PaAny, "")
	case 1:
		return numbered(ex(api.PaBool, ""), m.chance.Intn(2))
	case 2:
		return numbered(ex(api.PaInt, ""), m.chance.Intn(1<<33-1)-(1<<32-1))
	}
	x := ex(api.PaVariant, m.one("E", "Box", "a")+"::"+m.one("A", "new", "u8"))
	for range m.chance.Intn(4) {
		x.Kids = append(x.Kids, ex(api.PaBind, m.name()))
	}
	return x
}

func (m *maker) block(room int) api.Expr {
	x := block()
	for range m.chance.Intn(4) {
		x.Kids = append(x.Kids, m.statement(room-1))
	}
	if m.often(2) {
		x.Kids, x.Num = append(x.Kids, m.tree(room-1)), 1
	}
	return x
}

func (m *maker) statement(room int) api.Expr {
	switch m.chance.Intn(9) {
	case 0:
		x := numbered(ex(api.ExLet, m.name(), m.tree(room)), m.chance.Intn(2))
		if m.often(2) {
			x.Ty = []api.Type{m.typed(4)}
		}
		return x
	case 1:
		return ex(api.ExWhile, "", m.tree(room), m.block(room))
	case 2:
		return ex(api.ExLoop, "", m.block(room))
	case 3:
		return ex(m.chance.Intn(3)+api.ExBreak, "")
	case 4:
		return ex(api.ExReturn, "", m.tree(room))
	case 5:
		return ex(api.ExAssign, "", m.tree(room), m.tree(room))
	case 6:
		return stmt(m.closed(room))
	}
	return stmt(m.tree(room))
}

func (m *maker) item(room int) api.Item {
	it := api.Item{Kind: 1 + m.chance.Intn(4), Name: m.name()}
	for range m.chance.Intn(4) {
		switch it.Kind {
		case api.ItFunc, api.ItStruct:
			it.Params = append(it.Params, api.Param{Name: m.name(), Mut: it.Kind == api.ItFunc && m.often(2), Type: m.typed(4)})
		case api.ItEnum:
			v := api.Variant{Name: m.name()}
			for range m.chance.Intn(3) {
				v.Types = append(v.Types, m.typed(4))
			}
			it.Variants = append(it.Variants, v)
		}
	}
	switch it.Kind {
	case api.ItFunc:
		it.Type, it.Body = m.typed(2), m.block(room)
	case api.ItConst:
		it.Type, it.Num = m.typed(4), m.chance.Intn(1<<33-1)-(1<<32-1)
	}
	return it
}

// What a tree must be like so that a text has it, told from the chapter's grammar, kind by kind.

var (
	namePattern = regexp.MustCompile(`^[A-Za-z_][A-Za-z0-9_]{0,39}$`)
	words       = strings.Fields("fn struct enum const let mut if else match while loop break continue return true false as")
	signs       = strings.Fields("|| && == != < <= > >= | ^ & << >> + - * / %")
	suffixes    = []string{"", "i8", "i16", "i32", "u8", "u16", "u32"}
)

func isName(s string) bool { return namePattern.MatchString(s) && !slices.Contains(words, s) }

func isPair(s string) bool {
	enum, variant, ok := strings.Cut(s, "::")
	return ok && isName(enum) && isName(variant)
}

// isPatternPair leaves out _, which is no name of a variant in patterns.
func isPatternPair(s string) bool {
	return isPair(s) && !strings.HasPrefix(s, "_::") && !strings.HasSuffix(s, "::_")
}

func isEmpty(s string) bool { return s == "" }

func isType(t api.Type) bool {
	plain := t.Name == "" && t.N == 0 && len(t.Elem) == 0
	of := t.Name == "" && len(t.Elem) == 1 && isType(t.Elem[0])
	switch t.Kind {
	case api.TyNamed:
		return t.N == 0 && len(t.Elem) == 0 && isName(t.Name) && t.Name != "Box" && t.Name != "bool" && !slices.Contains(suffixes, t.Name)
	case api.TyArray:
		return of && 0 <= t.N && t.N <= 65535
	case api.TyBox, api.TyRef, api.TyMut:
		return of && t.N == 0
	}
	return plain && api.TyUnit <= t.Kind && t.Kind <= api.TyU32
}

type spec struct {
	least, most int // of Num
	text        func(s string) bool
	types       []int // how many there may be
	kids        func(kids []api.Expr) bool
}

// each asks all kids the same; row asks so many kids, each what it must be.
func each(is func(x api.Expr) bool) func(kids []api.Expr) bool {
	return func(kids []api.Expr) bool {
		return !slices.ContainsFunc(kids, func(x api.Expr) bool { return !is(x) })
	}
}

func row(is ...func(x api.Expr) bool) func(kids []api.Expr) bool {
	return func(kids []api.Expr) bool {
		if len(kids) != len(is) {
			return false
		}
		for i, kid := range kids {
			if !is[i](kid) {
				return false
			}
		}
		return true
	}
}

func either(a, b func(kids []api.Expr) bool) func(kids []api.Expr) bool {
	return func(kids []api.Expr) bool { return a(kids) || b(kids) }
}

func isOf(kinds ...int) func(x api.Expr) bool {
	return func(x api.Expr) bool { return slices.Contains(kinds, x.Kind) && isFormed(x) }
}

func isTree(x api.Expr) bool {
	return (api.ExInt <= x.Kind && x.Kind <= api.ExMatch && x.Kind != api.ExInit) && isFormed(x)
}

func isStatement(x api.Expr) bool {
	return api.ExWhile <= x.Kind && x.Kind <= api.ExStmt && isFormed(x)
}

// isFormed tells whether a tree is as its kind must be, wherever it stands.
func isFormed(x api.Expr) bool {
	none, isBlock := row(), isOf(api.ExBlock)
	one, two := row(isTree), row(isTree, isTree)
	const most = 1<<32 - 1
	isSign := func(s string) bool { return slices.Contains(signs, s) }
	isSuffix := func(s string) bool { return slices.Contains(suffixes, s) }
	s, ok := map[int]spec{
		api.ExInt: {0, most, isSuffix, nil, none}, api.ExBool: {0, 1, isEmpty, nil, none}, api.ExUnit: {0, 0, isEmpty, nil, none}, api.ExVar: {0, 0, isName, nil, none},
		api.ExNeg: {0, 0, isEmpty, nil, one}, api.ExNot: {0, 0, isEmpty, nil, one}, api.ExDeref: {0, 0, isEmpty, nil, one}, api.ExBorrow: {0, 1, isEmpty, nil, one},
		api.ExBin: {0, 0, isSign, nil, two}, api.ExCast: {0, 0, isEmpty, []int{1}, one}, api.ExCall: {0, 0, isName, nil, each(isTree)}, api.ExField: {0, 0, isName, nil, one},
		api.ExIndex: {0, 0, isEmpty, nil, two}, api.ExStruct: {0, 0, isName, nil, each(isOf(api.ExInit))}, api.ExInit: {0, 0, isName, nil, one}, api.ExVariant: {0, 0, isPair, nil, each(isTree)},
		api.ExArray: {0, 0, isEmpty, nil, each(isTree)}, api.ExRepeat: {0, 65535, isEmpty, nil, one}, api.ExBlock: {0, 1, isEmpty, nil, blockKids(x.Num)},
		api.ExIf:    {0, 0, isEmpty, nil, either(row(isTree, isBlock), row(isTree, isBlock, isOf(api.ExBlock, api.ExIf)))},
		api.ExMatch: {0, 0, isEmpty, nil, func(kids []api.Expr) bool { return len(kids) > 0 && isTree(kids[0]) && each(isOf(api.ExArm))(kids[1:]) }},
		api.ExArm:   {0, 0, isEmpty, nil, row(isOf(api.PaInt, api.PaBool, api.PaAny, api.PaVariant), isTree)}, api.PaInt: {-most, most, isEmpty, nil, none}, api.PaBool: {0, 1, isEmpty, nil, none},
		api.PaAny: {0, 0, isEmpty, nil, none}, api.PaVariant: {0, 0, isPatternPair, nil, each(isOf(api.PaBind))}, api.PaBind: {0, 0, isName, nil, none},
		api.ExWhile: {0, 0, isEmpty, nil, row(isTree, isBlock)}, api.ExLoop: {0, 0, isEmpty, nil, row(isBlock)}, api.ExBreak: {0, 0, isEmpty, nil, none}, api.ExNext: {0, 0, isEmpty, nil, none},
		api.ExReturn: {0, 0, isEmpty, nil, either(none, one)}, api.ExLet: {0, 1, isName, []int{0, 1}, one}, api.ExAssign: {0, 0, isEmpty, nil, two}, api.ExStmt: {0, 0, isEmpty, nil, one},
	}[x.Kind]
	if s.types == nil {
		s.types = []int{0}
	}
	return ok && s.least <= x.Num && x.Num <= s.most && s.text(x.Text) && slices.Contains(s.types, len(x.Ty)) &&
		!slices.ContainsFunc(x.Ty, func(t api.Type) bool { return !isType(t) }) && s.kids(x.Kids)
}

func blockKids(num int) func(kids []api.Expr) bool {
	return func(kids []api.Expr) bool {
		if num == 0 {
			return each(isStatement)(kids)
		}
		return len(kids) > 0 && each(isStatement)(kids[:len(kids)-1]) && isTree(kids[len(kids)-1])
	}
}

// parts tells the places of all trees in a tree.
func parts(x *api.Expr) []*api.Expr {
	all := []*api.Expr{x}
	for i := range x.Kids {
		all = append(all, parts(&x.Kids[i])...)
	}
	return all
}

// change makes one thing of one part of a tree another one.
func (m *maker) change(root *api.Expr) {
	all := parts(root)
	x := all[m.chance.Intn(len(all))]
	switch m.chance.Intn(10) {
	case 0, 1:
		x.Kind = m.chance.Intn(api.ExStmt+3) - 1
	case 2:
		x.Num = []int{0, 1, 2, -1, 65535, 65536, 1<<32 - 1, 1 << 32, -1<<32 + 1, -1 << 32, math.MinInt, math.MaxInt}[m.chance.Intn(12)]
	case 3:
		x.Text = m.one("", "a", "b", "_", "u8", "i32", "+", "<", "&", "=", "E::A", "_::A", "E::_", "fn", "mut", "true", " ", "a b", "a::b::c", "1", "a//", "(", ")")
	case 4:
		x.Kids = append(x.Kids, copyTree(*all[m.chance.Intn(len(all))]))
	case 5:
		if len(x.Kids) > 0 {
			i := m.chance.Intn(len(x.Kids))
			x.Kids = slices.Delete(x.Kids, i, i+1)
		}
	case 6:
		if len(x.Kids) > 1 {
			i := m.chance.Intn(len(x.Kids) - 1)
			x.Kids[i], x.Kids[i+1] = x.Kids[i+1], x.Kids[i]
		}
	case 7:
		*x = copyTree(*all[m.chance.Intn(len(all))])
	default:
		m.changeTypes(&x.Ty)
	}
}

func (m *maker) changeTypes(list *[]api.Type) {
	if len(*list) == 0 || m.often(5) {
		*list = append(*list, m.typed(2))
		return
	}
	t := &(*list)[m.chance.Intn(len(*list))]
	for len(t.Elem) > 0 && !m.often(2) {
		t = &t.Elem[0]
	}
	switch m.chance.Intn(5) {
	case 0:
		t.Kind = m.chance.Intn(api.TyNever+3) - 1
	case 1:
		t.Name = m.one("", "S", "u8", "Box", "_", "a b", "fn")
	case 2:
		t.N = []int{0, 1, -1, 65535, 65536, math.MinInt}[m.chance.Intn(6)]
	case 3:
		t.Elem = append(t.Elem, m.typed(2))
	default:
		*list = (*list)[:len(*list)-1]
	}
}

// P4.2 and P4.3: what has a text is told, and nothing else is, whatever is changed of it.

func TestTreesByChance(t *testing.T) {
	t.Parallel()
	told := 0
	for turn := range 8000 {
		m := newMaker(turn)
		x := m.tree(turn % 6)
		if !isTree(x) {
			t.Fatalf("%s is made, but not a tree", brief(x))
		}
		wantTold(t, x)
		other := copyTree(x)
		for range 1 + m.chance.Intn(2) {
			m.change(&other)
		}
		if isTree(other) {
			told++
			wantTold(t, other)
		} else {
			wantNoText(t, other)
		}
		wantAlike(t, x, other, sameTrees(x, other))
		if t.Failed() {
			return
		}
	}
	if told < 200 {
		t.Errorf("only %d changed trees have a text", told)
	}
}

func TestProgramsByChance(t *testing.T) {
	t.Parallel()
	for turn := range 5000 {
		m := newMaker(turn)
		var l []api.Item
		for range 1 + m.chance.Intn(3) {
			l = append(l, m.item(turn%5))
		}
		wantItemsTold(t, l)
		i := m.chance.Intn(len(l))
		l[i] = copyItem(l[i])
		switch it := &l[i]; {
		case it.Kind == api.ItFunc && m.often(2):
			m.change(&it.Body)
		case len(it.Params) > 0:
			types := []api.Type{copyType(it.Params[0].Type)}
			m.changeTypes(&types)
			it.Params[0].Type = append(types, ty(api.TyBool))[0]
		case len(it.Variants) > 0:
			m.changeTypes(&it.Variants[0].Types)
		default:
			types := []api.Type{it.Type}
			m.changeTypes(&types)
			it.Type = append(types, ty(api.TyBool))[0]
		}
		if isItem(l[i]) {
			wantItemsTold(t, l)
		} else {
			wantNoItems(t, l...)
		}
		if t.Failed() {
			return
		}
	}
}

// isItem tells whether a text has an item whose names are right.
func isItem(it api.Item) bool {
	wrongParam := func(p api.Param) bool { return !isType(p.Type) }
	wrongVariant := func(v api.Variant) bool {
		return slices.ContainsFunc(v.Types, func(t api.Type) bool { return !isType(t) })
	}
	typed := isType(it.Type)
	if it.Kind == api.ItStruct || it.Kind == api.ItEnum {
		typed = sameType(it.Type, api.Type{})
	}
	body := it.Kind != api.ItFunc || isOf(api.ExBlock)(it.Body)
	return typed && body && !slices.ContainsFunc(it.Params, wrongParam) && !slices.ContainsFunc(it.Variants, wrongVariant)
}
