package fold_test

import (
	"math"
	"reflect"
	"slices"
	"testing"

	"ferrule/api"
	"ferrule/fold"
)

// Wrong inputs, odd ones, and memory.

func TestRefused(t *testing.T) {
	good := starts([]int{1, 2}, set(0, n(1)), show(v(0)))
	bad := func(change func(f *api.Mir)) api.Mir {
		f := starts([]int{1, 2}, set(0, n(1)), show(v(0)))
		change(&f)
		return f
	}
	first := func(in api.Instr) api.Mir { return bad(func(f *api.Mir) { f.Blocks[0].List[0] = in }) }
	for what, l := range map[string][]api.Mir{
		"nothing in it":              {{}},
		"no block":                   {{Name: "main"}},
		"one name twice":             {good, good},
		"the second one":             {good, fn("f", nil, 1, 0, block(answer()))},
		"a local with words below 0": {bad(func(f *api.Mir) { f.Locals[1] = -1 })},
		"a local with too many":      {bad(func(f *api.Mir) { f.Locals[1] = 4*api.MaxWords + 1 })},
		"params below 0":             {bad(func(f *api.Mir) { f.Params = -1 })},
		"too many params":            {bad(func(f *api.Mir) { f.Params = 3 })},
		"answers below 0":            {bad(func(f *api.Mir) { f.Answers = -1 })},
		"too many answers":           {bad(func(f *api.Mir) { f.Answers = api.MaxPass + 1 })},
		"an operand of no local":     {first(show(v(2)))},
		"an operand below 0":         {first(show(v(-1)))},
		"an operand of two words":    {first(show(v(1)))},
		"a Dst of two words":         {first(set(1, n(1)))},
		"a place of no local":        {first(addr(0, at(2)))},
		"an index that is none":      {first(addr(0, at(1, times(1, 1))))},
		"another step":               {first(addr(0, at(1, api.Step{Kind: 4})))},
		"a step too far":             {first(addr(0, at(1, step(1<<16+1))))},
		"another OpBin":              {first(bin(0, n(1), "eq", n(1)))},
		"a call of nobody":           {first(calls(nil, "f"))},
		"another operation":          {first(api.Instr{Op: 16})},
		"no operation":               {first(api.Instr{})},
		"an OpClear of no local":     {first(empty(u8, 7))},
		"an end that goes nowhere":   {bad(func(f *api.Mir) { f.Blocks[0].Term = jump(1) })},
		"an end that goes below 0":   {bad(func(f *api.Mir) { f.Blocks[0].Term = branch(n(1), 0, math.MinInt) })},
		"an end that answers":        {bad(func(f *api.Mir) { f.Blocks[0].Term = answer(n(1)) })},
		"another end":                {bad(func(f *api.Mir) { f.Blocks[0].Term.Kind = 5 })},
		"no end":                     {bad(func(f *api.Mir) { f.Blocks[0].Term.Kind = 0 })},
		"where nothing comes to":     {fn("main", nil, 0, 0, block(answer()), block(answer(n(1))))},
	} {
		if out, e := fold.Fold(l); e != api.ErrForm || len(out) != 0 {
			t.Errorf("%s: %d, %d functions", what, int(e), len(out))
		}
		for _, f := range l {
			wantPlain(t, what, f, plainly(f)...)
		}
	}
}

func TestNothing(t *testing.T) {
	for _, l := range [][]api.Mir{nil, {}} {
		if out, e := fold.Fold(l); e != api.OK || len(out) != 0 {
			t.Error(int(e), len(out))
		}
	}
	// There need be no main; lists may be nil or empty.
	f := fn("f", nil, 0, 0, block(answer()), api.Block{List: []api.Instr{}, Term: jump(0)})
	g := fn("", []int{}, 0, 0, api.Block{List: []api.Instr{{Op: api.OpCall, Text: "f", Args: []api.Operand{}}, {Op: api.OpCall, Text: "f", Dsts: []int{}}}, Term: api.Term{Kind: api.TeReturn, Args: []api.Operand{}}})
	out := folded(t, []api.Mir{f, g})
	if told(out[0]) != "return" || told(out[1]) != "=f(); =f(); return" {
		t.Error(told(out[0]), told(out[1]))
	}
	// The functions stay as they are but for their blocks: names, params, answers, quiet ones, in their order.
	l := []api.Mir{quiet(fn("b", []int{2, 0, 1, 5}, 3, 2, block(answer(v(2), n(1))))), fn("a", []int{1}, 1, 0, block(fail())), quiet(fn("main", nil, 1-1, 0, block(answer())))}
	for k, f := range folded(t, l) {
		if f.Name != l[k].Name || f.Quiet != l[k].Quiet || f.Params != l[k].Params || f.Answers != l[k].Answers || !slices.Equal(f.Locals[:f.Params], l[k].Locals[:f.Params]) {
			t.Errorf("%+v", f)
		}
	}
}

// spoilt is functions whose fields that no operation uses are set to anything.
func spoilt(l []api.Mir) []api.Mir {
	out := roomy(reflect.ValueOf(l)).Interface().([]api.Mir)
	for _, f := range out {
		for k := range f.Blocks {
			b := &f.Blocks[k]
			for at := range b.List {
				b.List[at] = spoiltInstr(b.List[at], at)
			}
			b.Term = spoiltEnd(b.Term)
		}
	}
	return out
}

// spoiltInstr sets what stands not in a bare one; one field and another one.
func spoiltInstr(in api.Instr, which int) api.Instr {
	odd := api.Instr{Dst: -7, A: v(99), B: v(-1), P: at(0), Q: at(1, step(1)), N: 1 << 40, Text: "odd", Type: boxed(boxed(u8)), Args: []api.Operand{v(0), v(77)}, Dsts: []int{0, -1}}
	if which%2 == 1 {
		odd.Dst, odd.A, odd.B, odd.P, odd.Q = 0, v(0), v(0), at(1<<40, times(-1, -1)), at(0)
	}
	only := reflect.ValueOf(bare(in))
	from, to := reflect.ValueOf(odd), reflect.ValueOf(&in).Elem()
	// A field whose change is taken away again by bare is one that the operation does not use.
	for k := range to.NumField() {
		was := reflect.New(to.Field(k).Type()).Elem()
		was.Set(to.Field(k))
		if to.Type().Field(k).Name == "Op" {
			continue
		}
		to.Field(k).Set(from.Field(k))
		if !reflect.DeepEqual(reflect.ValueOf(bare(in)).Interface(), only.Interface()) {
			to.Field(k).Set(was)
		}
	}
	for _, p := range []*api.Place{&in.P, &in.Q} {
		for k := range p.Steps {
			switch s := &p.Steps[k]; s.Kind {
			case api.StHeld:
				s.N, s.Size = -5, 1<<40
			case api.StAdd:
				s.Size = -5
			}
		}
	}
	return in
}

func spoiltEnd(t api.Term) api.Term {
	if t.Kind != api.TeIf {
		t.A, t.Else = v(-9), 1<<40
	}
	if t.Kind == api.TeReturn || t.Kind == api.TePanic {
		t.To = -1
	}
	if t.Kind != api.TeReturn {
		t.Args = []api.Operand{v(0), v(99)}
	}
	return t
}

// Fields that an operation does not use may be anything: what is told is the same.
func TestSpoilt(t *testing.T) {
	many := 0
	for seed := range int64(400) {
		l := mixed(seed)
		odd := spoilt(l)
		if reflect.DeepEqual(l, odd) {
			many++
		}
		for k := range l {
			wantPlain(t, "spoilt", odd[k], fold.Plain(l[k])...)
		}
		want, got := folded(t, l), folded(t, odd)
		for k := range want {
			if told(want[k]) != told(got[k]) {
				t.Fatalf("seed %d: %s, not %s", seed, told(got[k]), told(want[k]))
			}
		}
	}
	if many > 5 {
		t.Errorf("%d are not spoilt", many)
	}
}

// span is the memory of a list, spare room too.
type span struct{ from, to uintptr }

// spans tells those of all lists in a value, with what lies in their spare room.
func spans(v reflect.Value) []span {
	var all []span
	switch v.Kind() {
	case reflect.Slice:
		if size := v.Type().Elem().Size() * uintptr(v.Cap()); size > 0 {
			all = append(all, span{v.Pointer(), v.Pointer() + size})
		}
		for k := range v.Cap() {
			all = append(all, spans(v.Slice(0, v.Cap()).Index(k))...)
		}
	case reflect.Struct:
		for k := range v.NumField() {
			all = append(all, spans(v.Field(k))...)
		}
	}
	return all
}

// roomy is a value in new memory, whose lists have spare room with something in it.
func roomy(v reflect.Value) reflect.Value {
	out := reflect.New(v.Type()).Elem()
	switch v.Kind() {
	case reflect.Slice:
		list := reflect.MakeSlice(v.Type(), v.Len()+2, v.Len()+2)
		for k := range v.Len() {
			list.Index(k).Set(roomy(v.Index(k)))
		}
		for k := v.Len(); k < v.Len()+2; k++ {
			mark(list.Index(k))
		}
		out.Set(list.Slice(0, v.Len()))
	case reflect.Struct:
		for k := range v.NumField() {
			out.Field(k).Set(roomy(v.Field(k)))
		}
	default:
		out.Set(v)
	}
	return out
}

func mark(v reflect.Value) {
	switch v.Kind() {
	case reflect.Int:
		v.SetInt(77)
	case reflect.String:
		v.SetString("spare")
	case reflect.Struct:
		for k := range v.NumField() {
			mark(v.Field(k))
		}
	}
}

// whole is a value with the spare room of its lists as parts of them, in new memory.
func whole(v reflect.Value) reflect.Value {
	out := reflect.New(v.Type()).Elem()
	switch v.Kind() {
	case reflect.Slice:
		if v.IsNil() {
			return out
		}
		all := v.Slice(0, v.Cap())
		list := reflect.MakeSlice(v.Type(), all.Len(), all.Len())
		for k := range all.Len() {
			list.Index(k).Set(whole(all.Index(k)))
		}
		out.Set(list)
	case reflect.Struct:
		for k := range v.NumField() {
			out.Field(k).Set(whole(v.Field(k)))
		}
	default:
		out.Set(v)
	}
	return out
}

// wantApart asks whether what is handed in stays as it was, and what is handed out has memory of its own, each list.
func wantApart(t *testing.T, l []api.Mir) {
	t.Helper()
	given := roomy(reflect.ValueOf(l)).Interface().([]api.Mir)
	before := whole(reflect.ValueOf(given)).Interface()
	out, e := fold.Fold(given)
	for _, f := range given {
		fold.Plain(f)
	}
	if !reflect.DeepEqual(before, whole(reflect.ValueOf(given)).Interface()) {
		t.Fatal("what was handed in was changed")
	}
	again, other := fold.Fold(l)
	if e != other || !slices.EqualFunc(out, again, func(a, b api.Mir) bool { return told(a) == told(b) }) {
		t.Fatal("it is not told again")
	}
	all := spans(reflect.ValueOf(out))
	slices.SortFunc(all, func(a, b span) int { return int(int64(a.from) - int64(b.from)) })
	for k := range all {
		if k > 0 && all[k].from < all[k-1].to {
			t.Fatal("two lists share memory")
		}
	}
	for _, s := range spans(reflect.ValueOf(given)) {
		k, _ := slices.BinarySearchFunc(all, s, func(a, b span) int { return int(int64(a.to) - int64(b.from) - 1) })
		if k < len(all) && all[k].from < s.to && s.from < all[k].to {
			t.Fatal("something of what was handed in is handed out")
		}
	}
}

func TestMemory(t *testing.T) {
	wantApart(t, nil)
	wantApart(t, []api.Mir{{Name: "main"}})
	f := fn("f", []int{1, 3}, 2, 2, block(answer(v(0), v(0))))
	wantApart(t, []api.Mir{f, main(block(jump(1), calls([]int{0, 1}, "f", v(0), v(1), n(2), n(3)), addr(2, at(3, held(), held(), step(1)))), block(answer(), drop(boxed(boxed(u8)), at(0, held())), show(v(0)), set(5, n(1)), load(4, at(1, held(), step(2)))))})
	for seed := range int64(200) {
		wantApart(t, mixed(seed))
	}
	for seed := range int64(10) {
		wantApart(t, elaborated(t, typed(t, program(seed, 30))))
	}
}
