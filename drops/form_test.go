package drops_test

import (
	"reflect"
	"slices"
	"strconv"
	"strings"
	"testing"

	"ferrule/api"
	"ferrule/drops"
	"ferrule/mir"
)

// P14.1: what is told of functions, in what memory, and what is refused.

func TestRefusedFunctions(t *testing.T) {
	good := starts([]int{1}, alloc(0, 1), give(0), empty(boxed(u8), 0))
	bad := func(change func(f *api.Mir)) api.Mir {
		f := starts([]int{1}, alloc(0, 1), give(0), empty(boxed(u8), 0))
		change(&f)
		return f
	}
	for what, l := range map[string][]api.Mir{
		"no block":                   {{Name: "main"}},
		"one name twice":             {good, good},
		"a local with words below 0": {bad(func(f *api.Mir) { f.Locals[0] = -1 })},
		"an OpClear of no local":     {bad(func(f *api.Mir) { f.Blocks[0].List[2].Dst = 1 })},
		"an OpGive of no local":      {bad(func(f *api.Mir) { f.Blocks[0].List[1].Dst = -1 })},
		"an OpTake of no local":      {bad(func(f *api.Mir) { f.Blocks[0].List[1] = take(7) })},
		"an OpDrop at no place":      {bad(func(f *api.Mir) { f.Blocks[0].List[1] = drop(boxed(u8), at(1)) })},
		"an OpDrop by another step":  {bad(func(f *api.Mir) { f.Blocks[0].List[1] = drop(boxed(u8), at(0, api.Step{Kind: 4})) })},
		"an end that goes nowhere":   {bad(func(f *api.Mir) { f.Blocks[0].Term = jump(1) })},
		"another end":                {bad(func(f *api.Mir) { f.Blocks[0].Term.Kind = 0 })},
		"another operation":          {bad(func(f *api.Mir) { f.Blocks[0].List[0].Op = 16 })},
		"a call of nobody":           {bad(func(f *api.Mir) { f.Blocks[0].List[0] = calls(nil, "f") })},
		"the second one":             {good, fn("f", nil, 1, 0, block(answer()))},
	} {
		if out, e := drops.Elaborate(kinds(), l); e != api.ErrForm || len(out) != 0 {
			t.Errorf("%s: %d, %d functions", what, int(e), len(out))
		}
	}
}

func TestRefusedTypes(t *testing.T) {
	items := append(kinds(), structure("Big", array(127, u8), named("Perhaps")), enum("Perhaps", nil, of(boxed(u8))), structure("Round", boxed(u8), named("Round")), structure("Odd", boxed(u8), named("Nobody")), structure("Many", array(511, ty(api.TyUnit)), u8), structure("Last", array(126, u8), named("Perhaps")))
	for _, x := range of(
		named("Nobody"), named(""), named("main"), named("Big"), named("Round"), named("Odd"), named("Many"), array(129, u8), array(2, named("Last")), array(512, ty(api.TyUnit)), array(1, ty(api.TyBox)), ty(api.TyArray), ty(api.TyBox), ty(api.TyRef), ty(api.TyMut), ty(api.TyNever), ty(0), ty(-1), ty(15), ty(99, u8),
	) {
		ends := block(answer())
		for what, f := range map[string]api.Mir{
			"dropped":                  starts([]int{1}, drop(x, at(0))),
			"cleared":                  starts([]int{1}, give(0), empty(x, 0)),
			"never there":              starts([]int{1}, empty(x, 0)),
			"where nothing comes to":   fn("main", []int{1}, 0, 0, ends, block(jump(0), drop(x, at(0)))),
			"behind what is no matter": starts([]int{1}, drop(boxed(u8), at(0)), empty(u8, 0), drop(ty(api.TyMut, u8), at(0)), drop(ty(api.TyRef, u8), at(0)), drop(array(1, u8), at(0)), drop(x, at(0))),
		} {
			for _, l := range [][]api.Mir{{f}, {fn("f", nil, 0, 0, ends), f}} {
				if out, e := drops.Elaborate(items, l); e != api.ErrForm || len(out) != 0 {
					t.Errorf("%s: %v: %d, %d functions", what, x, int(e), len(out))
				}
			}
		}
		// The Type of other operations says nothing; nor does what a Box points to.
		other := show(n(1))
		other.Type = x
		keeps := give(0)
		keeps.Type = x
		if _, e := drops.Elaborate(items, []api.Mir{starts([]int{1}, other, keeps, drop(boxed(x), at(0)), drop(ty(api.TyRef, x), at(0)), empty(array(0, x), 0))}); e != api.OK {
			t.Errorf("%v: %d", x, int(e))
		}
	}
	for _, x := range of(ty(api.TyUnit), ty(api.TyBool), ty(api.TyI8), ty(api.TyU32), named("Last"), array(128, u8), array(511, ty(api.TyUnit)), array(-1, u8), array(128, boxed(named("Nobody"))), ty(api.TyMut, u8)) {
		elaborated(t, items, []api.Mir{starts([]int{128}, drop(x, at(0)), give(0), empty(x, 0))})
	}
}

// Items that are none, and lists that are nil.
func TestWithoutItems(t *testing.T) {
	for _, items := range [][]api.Item{nil, {}, {{}, {Kind: -1, Name: "P"}, {Kind: 99}}} {
		for _, l := range [][]api.Mir{nil, {}} {
			if out, e := drops.Elaborate(items, l); e != api.OK || len(out) != 0 {
				t.Error(int(e), len(out))
			}
		}
		l := []api.Mir{starts([]int{1}, alloc(0, 1), give(0), empty(boxed(u8), 0))}
		wantAgree(t, items, l, nil)
		if _, e := drops.Elaborate(items, []api.Mir{starts([]int{1}, drop(named("P"), at(0)))}); e != api.ErrForm {
			t.Error(int(e))
		}
	}
	// The item of a name is the first struct or enum.
	items := []api.Item{{Kind: api.ItFunc, Name: "S"}, {Kind: api.ItConst, Name: "S", Params: structure("", boxed(u8)).Params}, structure("S", u8, boxed(u8)), enum("S", of(boxed(u8))), structure("S", boxed(u8))}
	wantAgree(t, items, []api.Mir{starts([]int{2, 1}, alloc(1, 1), store(at(0, step(1)), v(1)), drop(named("S"), at(0)), alloc(1, 1), show(v(1)))}, nil)
	// There need be no main.
	elaborated(t, nil, []api.Mir{fn("f", []int{1}, 1, 0, block(answer(), give(0), empty(boxed(u8), 0)))})
}

// Names that functions have already, of types that look alike.
func TestNames(t *testing.T) {
	box := boxed(boxed(u8))
	ends := block(answer())
	for _, name := range []string{"drop Box<u8>", "drop ", "drop", "drop Box<u8>#1", "drop #1"} {
		l := []api.Mir{starts([]int{1, 1}, alloc(0, 1), alloc(1, 1), store(at(0, held()), v(1)), drop(box, at(0)), alloc(0, 1), show(v(0))), fn(name, nil, 0, 0, ends), fn("drop Box<u8>#2", nil, 0, 0, ends)}
		wantAgree(t, nil, l, nil)
	}
	// A struct whose name is the text of another type; names that are very long.
	long := strings.Repeat("n", 1000)
	items := []api.Item{structure("Box<u8>", u8, boxed(u8)), structure(long, boxed(u8), boxed(u8)), structure("", boxed(u8), u8, boxed(u8)), structure(long+"n", boxed(u8), u8)}
	l := []api.Mir{starts([]int{1, 1, 1, 4}, alloc(0, 1), alloc(1, 1), store(at(0, held()), v(1)), drop(box, at(0)),
		alloc(0, 2), alloc(1, 1), store(at(0, held()), n(0)), store(at(0, held(), step(1)), v(1)), drop(boxed(named("Box<u8>")), at(0)),
		alloc(0, 1), alloc(1, 1), store(at(3), v(0)), store(at(3, step(1)), v(1)), drop(named(long), at(3)),
		alloc(0, 1), alloc(1, 1), store(at(3), v(0)), store(at(3, step(2)), v(1)), drop(named(""), at(3)),
		alloc(0, 2), alloc(1, 1), store(at(0, held()), v(1)), drop(boxed(named(long+"n")), at(0)), alloc(0, 1), show(v(0)))}
	wantAgree(t, items, l, nil)
	out := elaborated(t, items, l)
	if len(out) != 4 {
		t.Errorf("%d functions", len(out))
	}
	for _, f := range out[1:] {
		if len(f.Name) > 200 {
			t.Errorf("a name of %d bytes", len(f.Name))
		}
	}
	// Types of one form are one, whatever else stands in them.
	same := []api.Instr{}
	for k := range 4 {
		x := boxed(boxed(u8))
		x.N, x.Name = k, "a"
		x.Elem[0].N, x.Elem[0].Name = k, "b"
		x.Elem[0].Elem[0].N, x.Elem[0].Elem[0].Elem = k, of(boxed(u8))
		x.Elem = append(x.Elem, boxed(boxed(u8)))
		same = append(same, drop(x, at(0)))
	}
	if out := elaborated(t, nil, []api.Mir{starts([]int{1}, same...)}); len(out) != 2 {
		t.Errorf("%d functions", len(out))
	}
}

// A function with none of the operations stays as it is, whatever stands in it.
func TestOthersStay(t *testing.T) {
	odd := api.Instr{Op: api.OpPrint, Dst: 9, A: n(1), B: v(3), P: at(4, held()), Q: at(5, step(1)), N: 1, Text: "x", Type: array(3, boxed(named("Nobody"))), Args: []api.Operand{v(1)}, Dsts: []int{2}}
	f := fn("f", []int{1, 2, 0}, 2, 1, block(branch(n(0), 1, 2), odd, read(0), api.Instr{Op: api.OpCall, Text: "f", Args: []api.Operand{n(1), n(2), v(0)}, Dsts: []int{0}}), api.Block{List: []api.Instr{}, Term: api.Term{Kind: api.TePanic, A: v(3), To: 9, Args: []api.Operand{n(2)}}}, block(answer(v(0)), move(2, at(1), at(1))), block(jump(3)))
	for _, f := range []api.Mir{f, quiet(f)} {
		l := []api.Mir{f, starts([]int{1}, drop(boxed(boxed(u8)), at(0)))}
		if out := elaborated(t, nil, l); !reflect.DeepEqual(out[0], f) {
			t.Errorf("%+v", out[0])
		}
	}
	l, list := taken(t, "struct P { a: [i32; 6], b: u8 } fn f(n: i32, p: &mut P) -> P { p.a[n] = 7; *p } fn main() { let mut p = P { a: [1; 6], b: 2 }; let mut i = 0; while i < 6 { p = f(i, &mut p); i = i + 1; } print(p.a[5]); }")
	if out := elaborated(t, l, list); len(out) != len(list) || !reflect.DeepEqual(out, list) {
		t.Error("a program without Boxes does not stay as it is")
	}
}

// span is the memory of a list, spare room too.
type span struct{ from, to uintptr }

// spans tells those of all lists in a value.
func spans(v reflect.Value) []span {
	var all []span
	switch v.Kind() {
	case reflect.Slice:
		if size := v.Type().Elem().Size() * uintptr(v.Cap()); size > 0 {
			all = append(all, span{v.Pointer(), v.Pointer() + size})
		}
		for k := range v.Len() {
			all = append(all, spans(v.Index(k))...)
		}
	case reflect.Struct:
		for k := range v.NumField() {
			all = append(all, spans(v.Field(k))...)
		}
	}
	return all
}

// roomy is a value in new memory, whose lists have spare room with something in it.
func roomy(v reflect.Value) reflect.Value {
	out := reflect.New(v.Type()).Elem()
	switch v.Kind() {
	case reflect.Slice:
		list := reflect.MakeSlice(v.Type(), v.Len()+2, v.Len()+2)
		for k := range v.Len() {
			list.Index(k).Set(roomy(v.Index(k)))
		}
		for k := v.Len(); k < v.Len()+2; k++ {
			mark(list.Index(k))
		}
		out.Set(list.Slice(0, v.Len()))
	case reflect.Struct:
		for k := range v.NumField() {
			out.Field(k).Set(roomy(v.Field(k)))
		}
	default:
		out.Set(v)
	}
	return out
}

func mark(v reflect.Value) {
	switch v.Kind() {
	case reflect.Int:
		v.SetInt(77)
	case reflect.String:
		v.SetString("spare")
	case reflect.Struct:
		for k := range v.NumField() {
			mark(v.Field(k))
		}
	}
}

// whole is a value with the spare room of its lists as parts of them, in new memory.
func whole(v reflect.Value) reflect.Value {
	out := reflect.New(v.Type()).Elem()
	switch v.Kind() {
	case reflect.Slice:
		if v.IsNil() {
			return out
		}
		all := v.Slice(0, v.Cap())
		list := reflect.MakeSlice(v.Type(), all.Len(), all.Len())
		for k := range all.Len() {
			list.Index(k).Set(whole(all.Index(k)))
		}
		out.Set(list)
	case reflect.Struct:
		for k := range v.NumField() {
			out.Field(k).Set(whole(v.Field(k)))
		}
	default:
		out.Set(v)
	}
	return out
}

// wantApart asks whether what is handed in stays as it was, and what is handed out has memory of its own, each list.
func wantApart(t *testing.T, items []api.Item, l []api.Mir) {
	t.Helper()
	things := roomy(reflect.ValueOf(items)).Interface().([]api.Item)
	given := roomy(reflect.ValueOf(l)).Interface().([]api.Mir)
	beforeThings, before := whole(reflect.ValueOf(things)).Interface(), whole(reflect.ValueOf(given)).Interface()
	out, e := drops.Elaborate(things, given)
	if !reflect.DeepEqual(before, whole(reflect.ValueOf(given)).Interface()) || !reflect.DeepEqual(beforeThings, whole(reflect.ValueOf(things)).Interface()) {
		t.Fatal("what was handed in was changed")
	}
	again, f := drops.Elaborate(items, l)
	if e != f || mir.Check(out) != api.OK || !slices.EqualFunc(out, again, func(a, b api.Mir) bool { return a.Name == b.Name && len(a.Blocks) == len(b.Blocks) }) {
		t.Fatal("it is not told again")
	}
	all := spans(reflect.ValueOf(out))
	slices.SortFunc(all, func(a, b span) int { return int(int64(a.from) - int64(b.from)) })
	for k := range all {
		if k > 0 && all[k].from < all[k-1].to {
			t.Fatal("two lists share memory")
		}
	}
	for _, s := range append(spans(reflect.ValueOf(given)), spans(reflect.ValueOf(things))...) {
		k, _ := slices.BinarySearchFunc(all, s, func(a, b span) int { return int(int64(a.to) - int64(b.from) - 1) })
		if k < len(all) && all[k].from < s.to && s.from < all[k].to {
			t.Fatal("something of what was handed in is handed out")
		}
	}
}

func TestMemory(t *testing.T) {
	l, list := taken(t, inMain("let x = [r(), r()]; if yes() { x; } let t = tree(4); if no() { t; } let mut n = [Box::new(box(1)), Box::new(box(2))]; n[read()] = Box::new(box(3)); [[Box::new(q())], [Box::new(q())]]; let e = X::E([E::N, E::N], ());"))
	wantApart(t, l, list)
	wantApart(t, kinds(), []api.Mir{starts([]int{8, 1}, drop(array(2, named("Some")), at(0, times(1, 1), held())), drop(u8, at(0, held())), drop(boxed(boxed(named("Deep"))), at(0, step(3))), give(1), empty(named("List"), 1))})
	for seed := range int64(60) {
		wantApart(t, mixedItems(), mixed(seed))
	}
	wantApart(t, nil, nil)
}

// Great functions are elaborated in time.
func TestGreat(t *testing.T) {
	box := boxed(u8)
	// A long way through blocks, backwards, with many locals.
	const blocks, locals = 4000, 3000
	f := fn("main", slices.Repeat([]int{1}, locals), 0, 0, block(jump(blocks-1)))
	for k := range locals {
		f.Blocks[0].List = append(f.Blocks[0].List, give(k))
	}
	for k := 1; k < blocks; k++ {
		f.Blocks = append(f.Blocks, block(branch(v(0), max(1, k-1), max(1, k-2))))
	}
	for k := range locals {
		f.Blocks[1].List = append(f.Blocks[1].List, empty(box, k))
		if k%2 == 0 {
			f.Blocks[2+k%100].List = append(f.Blocks[2+k%100].List, take(k))
		}
	}
	f.Blocks[1].Term = answer()
	out := elaborated(t, nil, []api.Mir{f})
	if more := len(out[0].Locals) - locals; more < 1000 || more > 1500 {
		t.Errorf("%d locals more", more)
	}
	// Very many types, and very many that are let go.
	var items []api.Item
	var list []api.Instr
	for k := range 3000 {
		name := "S" + strconv.Itoa(k)
		items = append(items, structure(name, boxed(named("S"+strconv.Itoa((k+1)%3000))), u8, boxed(u8)))
		list = append(list, drop(named(name), at(0)), drop(box, at(0)))
	}
	out = elaborated(t, items, []api.Mir{starts([]int{3}, slices.Repeat(list, 20)...)})
	if len(out) != 3001 || len(out[0].Blocks[0].List) != 20*7*3000 {
		t.Errorf("%d functions, %d instructions", len(out), len(out[0].Blocks[0].List))
	}
}
