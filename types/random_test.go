package types

import (
	"math"
	"math/rand"
	"reflect"
	"strconv"
	"testing"

	"ferrule/api"
)

// maker makes types and items by chance.
type maker struct{ chance *rand.Rand }

func (m maker) often(times int) bool { return m.chance.Intn(times) == 0 }

func (m maker) name() string { return string(rune('A' + m.chance.Intn(7))) }

// number is mostly small, now and then at the edge of what an int is.
func (m maker) number() int {
	switch m.chance.Intn(20) {
	case 0:
		return math.MaxInt - m.chance.Intn(3)
	case 1:
		return -m.chance.Intn(3)
	case 2:
		return 1 << m.chance.Intn(63)
	case 3:
		return m.chance.Intn(520)
	}
	return m.chance.Intn(7)
}

func (m maker) kind() int {
	if m.often(40) {
		return m.chance.Intn(40) - 10
	}
	return api.TyUnit + m.chance.Intn(8)
}

func (m maker) typed(room int) api.Type {
	if room == 0 || m.often(3) {
		if m.often(3) {
			return named(m.name())
		}
		return ty(m.kind())
	}
	switch m.chance.Intn(12) {
	case 0:
		return ty(api.TyBox, m.typed(room-1))
	case 1:
		return ty(api.TyRef+m.chance.Intn(2), m.typed(room-1))
	case 2:
		return api.Type{Kind: m.chance.Intn(16), Name: m.name(), N: m.number(), Elem: m.types(room - 1)}
	}
	return array(m.number(), m.typed(room-1))
}

func (m maker) types(room int) []api.Type {
	var list []api.Type
	for range m.chance.Intn(5) {
		list = append(list, m.typed(room))
	}
	return list
}

func (m maker) item() api.Item {
	it := structure(m.name(), m.types(2)...)
	if m.often(2) {
		var lists [][]api.Type
		for range m.chance.Intn(4) {
			lists = append(lists, m.types(2))
		}
		it = enum(it.Name, lists...)
	}
	if m.often(12) {
		it.Kind = m.chance.Intn(6)
	}
	for k := range it.Params {
		if m.often(6) {
			it.Params[k].Name = "f0"
		}
	}
	for k := range it.Variants {
		if m.often(6) {
			it.Variants[k].Name = "V0"
		}
	}
	return it
}

func (m maker) program() []api.Item {
	var l []api.Item
	for range m.chance.Intn(12) {
		l = append(l, m.item())
	}
	return l
}

func randoms(t *testing.T, try func(m maker, l []api.Item)) {
	for seed := range 6000 {
		m := maker{rand.New(rand.NewSource(int64(seed)))}
		try(m, m.program())
		if t.Failed() {
			t.Fatal("seed", seed)
		}
	}
}

func TestByChance(t *testing.T) {
	taken, copied := 0, 0
	randoms(t, func(m maker, l []api.Item) {
		for range 8 {
			x := m.typed(4)
			want := belongs(l, x)
			if got := told(t, l, x); got != want {
				t.Errorf("%v: %v, not %v", x, got, want)
			}
			if want.words >= 0 {
				taken++
			}
			if want.copied {
				copied++
			}
		}
	})
	if taken < 9000 || copied < 9000 {
		t.Errorf("%d types had words, %d were copied: too few", taken, copied)
	}
}

// fieldBelongs is what the chapter says of a field.
func fieldBelongs(l []api.Item, x api.Type, name string) fieldTold {
	it := typeItem(l, x.Name)
	if x.Kind != api.TyNamed || it == nil || it.Kind != api.ItStruct {
		return fieldTold{}
	}
	for at, f := range it.Params {
		if f.Name != name {
			continue
		}
		want := fieldTold{at, f.Type, 0, belongs(l, f.Type).words >= 0}
		for _, other := range it.Params[:at] {
			n := belongs(l, other.Type).words
			want.ok = want.ok && n >= 0
			want.ahead += n
		}
		if want.ok {
			return want
		}
		return fieldTold{}
	}
	return fieldTold{}
}

func variantBelongs(l []api.Item, x api.Type, name string) variantTold {
	it := typeItem(l, x.Name)
	if x.Kind != api.TyNamed || it == nil || it.Kind != api.ItEnum {
		return variantTold{}
	}
	for at, v := range it.Variants {
		if v.Name == name {
			return variantTold{at, v.Types, true}
		}
	}
	return variantTold{}
}

func TestFieldsByChance(t *testing.T) {
	fields, variants := 0, 0
	randoms(t, func(m maker, l []api.Item) {
		for range 12 {
			x := named(m.name())
			if m.often(8) {
				x = m.typed(2)
			}
			name, other := "f"+strconv.Itoa(m.chance.Intn(5)), "V"+strconv.Itoa(m.chance.Intn(4))
			f, v := fieldBelongs(l, x, name), variantBelongs(l, x, other)
			if got := askField(l, x, name); !reflect.DeepEqual(got, f) {
				t.Errorf("field %s of %v: %v, not %v", name, x, got, f)
			}
			if got := askVariant(l, x, other); !reflect.DeepEqual(got, v) {
				t.Errorf("variant %s of %v: %v, not %v", other, x, got, v)
			}
			if f.ok {
				fields++
			}
			if v.ok {
				variants++
			}
		}
	})
	if fields < 3000 || variants < 3000 {
		t.Errorf("%d fields, %d variants: too few", fields, variants)
	}
}

// TestLaws is P5.5: a struct has its fields' words, an array its element's, N times.
func TestLaws(t *testing.T) {
	structs, arrays := 0, 0
	randoms(t, func(m maker, l []api.Item) {
		for _, it := range l {
			n, ok := Words(l, named(it.Name))
			if item := typeItem(l, it.Name); !ok || item.Kind != api.ItStruct {
				continue
			}
			structs++
			for _, f := range typeItem(l, it.Name).Params {
				one, _ := Words(l, f.Type)
				n -= one
			}
			if n != 0 {
				t.Errorf("%s has %d words more than its fields", it.Name, n)
			}
		}
		for range 8 {
			x, n := m.typed(3), 1+m.chance.Intn(9)
			one, ok := Words(l, x)
			if all, is := Words(l, array(n, x)); is {
				arrays++
				if all != n*one || !ok {
					t.Errorf("[%v; %d] has %d words", x, n, all)
				}
			}
		}
	})
	if structs < 3000 || arrays < 3000 {
		t.Errorf("%d structs, %d arrays: too few", structs, arrays)
	}
}

// TestNothingChanges: what is handed in stays as it was, and what was answered is answered again.
func TestNothingChanges(t *testing.T) {
	randoms(t, func(m maker, l []api.Item) {
		seed := m.chance.Int63()
		made := func() ([]api.Item, api.Type, api.Type) {
			m := maker{rand.New(rand.NewSource(seed))}
			return m.program(), m.typed(4), named(m.name())
		}
		ask := func(l []api.Item, x, y api.Type) []any {
			return []any{told(t, l, x), told(t, l, y), askField(l, y, "f0"), askVariant(l, y, "V0"), Find(l, api.ItEnum, y.Name), Same(x, y)}
		}
		l, x, y := made()
		first := ask(l, x, y)
		l2, x2, y2 := made()
		if !reflect.DeepEqual(l, l2) || !reflect.DeepEqual(x, x2) || !reflect.DeepEqual(y, y2) {
			t.Error("an argument was changed")
		}
		if !reflect.DeepEqual(first, ask(l, x, y)) {
			t.Error("asked again, another answer")
		}
	})
}
