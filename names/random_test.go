package names

import (
	"math"
	"math/rand"
	"reflect"
	"slices"
	"strconv"
	"testing"

	"ferrule/api"
)

// maker makes programs by chance: mostly such as nothing is against, with a fault now and then.
type maker struct {
	chance *rand.Rand
	faulty int // one of so many things is wrong; 0: none
}

func newMaker(seed int) maker {
	return maker{rand.New(rand.NewSource(int64(seed))), []int{0, 5, 20, 60, 150}[seed%5]}
}

func (m maker) fault() bool { return m.faulty > 0 && m.chance.Intn(m.faulty) == 0 }

func (m maker) number() int {
	return []int{0, 1, -1, 127, 128, -128, -129, 255, 256, 32767, 32768, -32768, -32769, 65535, 65536, math.MaxInt32, math.MaxInt32 + 1, math.MinInt32, math.MinInt32 - 1, math.MaxUint32, math.MaxUint32 + 1, math.MaxInt, math.MinInt}[m.chance.Intn(23)]
}

// typed makes a type of the first few of the structs and enums T0, T1 and so on: so none of them is within itself, if nothing is wrong.
func (m maker) typed(few, room int) api.Type {
	if m.fault() {
		return m.wrongType(few, room)
	}
	switch m.chance.Intn(6) {
	case 0:
		if room > 0 {
			return array(m.chance.Intn(4), m.typed(few, room-1))
		}
	case 1:
		if room > 0 {
			return box(m.typed(few, room-1))
		}
	case 2:
		if few > 0 {
			return named("T" + strconv.Itoa(m.chance.Intn(few)))
		}
	}
	return ty(api.TyUnit + m.chance.Intn(8))
}

func (m maker) wrongType(few, room int) api.Type {
	inner := u8
	if room > 0 {
		inner = m.typed(few, room-1)
	}
	switch m.chance.Intn(7) {
	case 0:
		return ty(api.TyRef+m.chance.Intn(2), inner)
	case 1:
		return named([]string{"nobody", "main", "K", "", "u8"}[m.chance.Intn(5)])
	case 2:
		return ty(m.chance.Intn(20) - 3)
	case 3:
		return array(m.number(), inner)
	case 4:
		return api.Type{Kind: m.chance.Intn(16), Name: "T" + strconv.Itoa(m.chance.Intn(9)), N: m.number(), Elem: m.types(few, 1)}
	case 5:
		return array(128+m.chance.Intn(2), inner)
	}
	return named("T" + strconv.Itoa(m.chance.Intn(9)))
}

func (m maker) types(few, room int) []api.Type {
	var list []api.Type
	for range m.chance.Intn(4) {
		list = append(list, m.typed(few, room))
	}
	return list
}

// fields makes fields, or params, of which some are borrows.
func (m maker) fields(few int, refs bool) []api.Param {
	list := m.types(few, 3)
	for k := range list {
		if refs && m.chance.Intn(3) == 0 {
			list[k] = ty(api.TyRef+m.chance.Intn(2), list[k])
		}
	}
	out := params(0, list...)
	for k := range out {
		out[k].At = m.place()
		if m.fault() {
			out[k].Name = "p0"
		}
	}
	return out
}

func (m maker) place() int { return m.chance.Intn(1 << 40) }

// item makes the next one; few is how many structs and enums there are ahead.
func (m maker) item(few, other int) api.Item {
	it := api.Item{Kind: api.ItFunc + m.chance.Intn(4), Name: "o" + strconv.Itoa(other), At: m.place()}
	switch it.Kind {
	case api.ItFunc:
		it.Params, it.Type = m.fields(few, true), m.typed(few, 2)
	case api.ItStruct:
		it.Name, it.Params = "T"+strconv.Itoa(few), m.fields(few, false)
	case api.ItEnum:
		it.Name = "T" + strconv.Itoa(few)
		for k := range m.chance.Intn(4) {
			it.Variants = append(it.Variants, api.Variant{Name: "V" + strconv.Itoa(k), Types: m.types(few, 3), At: m.place()})
			if m.fault() {
				it.Variants[k].Name = "V0"
			}
		}
	default:
		it.Type = ty(api.TyI8 + m.chance.Intn(6))
		if m.fault() {
			it.Type = m.typed(few, 1)
			it.Num = m.number()
		}
	}
	if m.fault() {
		it.Kind = m.chance.Intn(8) - 1
	}
	if m.chance.Intn(3) == 0 && m.fault() {
		it.Name = []string{"T0", "o0", "main", "bool", "unbox"}[m.chance.Intn(5)]
	}
	return it
}

func (m maker) program() []api.Item {
	var l []api.Item
	few := 0
	for k := range m.chance.Intn(10) {
		it := m.item(few, k)
		if it.Name == "T"+strconv.Itoa(few) {
			few++
		}
		l = append(l, it)
	}
	if !m.fault() {
		l = append(l, mainAt(m.place()))
	}
	m.chance.Shuffle(len(l), func(a, b int) { l[a], l[b] = l[b], l[a] })
	return l
}

const turns = 30000

// TestCheckByChance holds Check against the chapter's words, and P6.3 with it.
func TestCheckByChance(t *testing.T) {
	seen := map[api.Errno]int{}
	for seed := range turns {
		l := newMaker(seed).program()
		wanted := belongs(l)
		want(t, l, wanted.at, wanted.e)
		if wanted.e == api.OK {
			wantWords(t, l)
		}
		if t.Failed() {
			t.Fatal("seed", seed)
		}
		seen[wanted.e]++
	}
	for _, e := range []api.Errno{api.OK, api.ErrTwice, api.ErrBorrow, api.ErrName, api.ErrForm, api.ErrSize, api.ErrWords, api.ErrType, api.ErrRange, api.ErrMain} {
		if seen[e] < 60 {
			t.Errorf("%d only %d times", int(e), seen[e])
		}
	}
}

// TestTypeByChance holds Type against the chapter's words.
func TestTypeByChance(t *testing.T) {
	seen := map[api.Errno]int{}
	for seed := range turns {
		m := newMaker(seed)
		l := m.program()
		for range 4 {
			x := m.typed(6, 4)
			if m.chance.Intn(4) == 0 {
				x = ty(api.TyRef+m.chance.Intn(2), x)
			}
			for _, refs := range []bool{false, true} {
				wanted := typeBelongs(l, x, refs)
				wantType(t, l, x, refs, wanted)
				seen[wanted]++
			}
		}
		if t.Failed() {
			t.Fatal("seed", seed)
		}
	}
	for _, e := range []api.Errno{api.OK, api.ErrBorrow, api.ErrName, api.ErrForm, api.ErrSize} {
		if seen[e] < 500 {
			t.Errorf("%d only %d times", int(e), seen[e])
		}
	}
}

// TestNothingChanges: what is handed in stays as it was, its spare room too, and what was answered is answered again.
func TestNothingChanges(t *testing.T) {
	for seed := range turns / 10 {
		made := func() ([]api.Item, api.Type) {
			m := newMaker(seed)
			return append(m.program(), structure("main", 1), mainAt(2)), m.typed(6, 4)
		}
		l, x := made()
		ask := func() []any {
			part := l[:len(l)-2]
			at, e := Check(part)
			return []any{at, e, Type(part, x, false), Type(part, x, true)}
		}
		first := ask()
		if wanted := belongs(slices.Clone(l[:len(l)-2])); first[0] != wanted.at || first[1] != wanted.e {
			t.Error("what lies behind the list's length was read")
		}
		if !reflect.DeepEqual(first, ask()) {
			t.Error("asked again, another answer")
		}
		if l2, x2 := made(); !reflect.DeepEqual(l, l2) || !reflect.DeepEqual(x, x2) {
			t.Error("an argument was changed")
		}
		if t.Failed() {
			t.Fatal("seed", seed)
		}
	}
}
