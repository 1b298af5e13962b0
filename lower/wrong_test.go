package lower_test

import (
	"math"
	"reflect"
	"slices"
	"testing"

	"ferrule/api"
	"ferrule/lower"
)

// Wrong inputs, odd ones, and memory.

func TestRefused(t *testing.T) {
	good := starts([]int{1, 2}, set(0, n(1)), show(v(0)))
	bad := func(change func(f *api.Mir)) api.Mir {
		f := starts([]int{1, 2}, set(0, n(1)), show(v(0)))
		change(&f)
		return f
	}
	first := func(in api.Instr) api.Mir { return bad(func(f *api.Mir) { f.Blocks[0].List[0] = in }) }
	for what, l := range map[string][]api.Mir{
		"nothing in it":              {{}},
		"no block":                   {{Name: "main"}},
		"one name twice":             {good, good},
		"the second one":             {good, fn("f", nil, 1, 0, block(answer()))},
		"a local with words below 0": {bad(func(f *api.Mir) { f.Locals[1] = -1 })},
		"a local with the least":     {bad(func(f *api.Mir) { f.Locals[1] = math.MinInt })},
		"a local with too many":      {bad(func(f *api.Mir) { f.Locals[1] = 4*api.MaxWords + 1 })},
		"a local with the most":      {bad(func(f *api.Mir) { f.Locals[1] = math.MaxInt })},
		"params below 0":             {bad(func(f *api.Mir) { f.Params = -1 })},
		"too many params":            {bad(func(f *api.Mir) { f.Params = 3 })},
		"too many words of params":   {fn("f", []int{9}, 1, 0, block(answer()))},
		"answers below 0":            {bad(func(f *api.Mir) { f.Answers = -1 })},
		"too many answers":           {bad(func(f *api.Mir) { f.Answers = api.MaxPass + 1 })},
		"an operand of no local":     {first(show(v(2)))},
		"an operand below 0":         {first(show(v(-1)))},
		"an operand of two words":    {first(show(v(1)))},
		"a Dst of two words":         {first(set(1, n(1)))},
		"a place of no local":        {first(addr(0, at(2)))},
		"an index that is none":      {first(addr(0, at(1, times(1, 1))))},
		"another step":               {first(addr(0, at(1, api.Step{Kind: 4})))},
		"a step too far":             {first(addr(0, at(1, step(1<<16+1))))},
		"a step back":                {first(addr(0, at(1, step(-1))))},
		"elements that are too big":  {first(addr(0, at(1, times(0, 1<<16+1))))},
		"a copy of too many":         {first(move(129, at(1), at(1)))},
		"a copy of fewer than none":  {first(move(-1, at(1), at(1)))},
		"a block of too many":        {first(alloc(0, 129))},
		"another OpBin":              {first(bin(0, n(1), "eq", n(1)))},
		"a call of nobody":           {first(calls(nil, "f"))},
		"a call with a word more":    {first(calls(nil, "main", n(1)))},
		"a call with an answer more": {first(calls([]int{0}, "main"))},
		"another operation":          {first(api.Instr{Op: 16})},
		"no operation":               {first(api.Instr{})},
		"an end that goes nowhere":   {bad(func(f *api.Mir) { f.Blocks[0].Term = jump(1) })},
		"an end that goes below 0":   {bad(func(f *api.Mir) { f.Blocks[0].Term = branch(n(1), 0, math.MinInt) })},
		"an end that answers":        {bad(func(f *api.Mir) { f.Blocks[0].Term = answer(n(1)) })},
		"another end":                {bad(func(f *api.Mir) { f.Blocks[0].Term.Kind = 5 })},
		"no end":                     {bad(func(f *api.Mir) { f.Blocks[0].Term.Kind = 0 })},
		"where nothing comes to":     {fn("main", nil, 0, 0, block(answer()), block(answer(n(1))))},
		"and a great frame":          {bad(func(f *api.Mir) { f.Blocks[0].Term.Kind, f.Locals[1] = 0, 512 })},
		"behind a great frame":       {starts([]int{512}), fn("f", nil, 0, 0)},
	} {
		wantRefused(t, what, api.ErrForm, l...)
	}
}

// uses tells the fields that an operation uses.
func uses(op int) []string {
	return map[int][]string{
		api.OpSet: {"Dst", "A"}, api.OpBin: {"Dst", "A", "B", "Text"}, api.OpLoad: {"Dst", "P"}, api.OpStore: {"P", "A"}, api.OpCopy: {"P", "Q", "N"}, api.OpAddr: {"Dst", "P"},
		api.OpAlloc: {"Dst", "N"}, api.OpFree: {"A"}, api.OpPrint: {"A", "N"}, api.OpRead: {"Dst"}, api.OpCall: {"Text", "Args", "Dsts"},
	}[op]
}

// spoiltInstr sets all fields that an operation does not use, one time so, another time otherwise.
func spoiltInstr(in api.Instr, which int) api.Instr {
	odd := api.Instr{Dst: -7, A: v(99), B: v(-1), P: at(4), Q: at(1<<40, times(-1, -1)), N: 1 << 40, Text: "odd", Type: api.Type{Kind: 77}, Args: []api.Operand{v(0), v(77)}, Dsts: []int{0, -1}}
	if which%2 == 1 {
		odd.Dst, odd.A, odd.B, odd.P, odd.Q, odd.N, odd.Text = 0, v(0), n(1), at(-3), at(5, step(1)), 1, "sub"
	}
	from, to := reflect.ValueOf(odd), reflect.ValueOf(&in).Elem()
	for k := range to.NumField() {
		name := to.Type().Field(k).Name
		if name != "Op" && !slices.Contains(uses(in.Op), name) {
			to.Field(k).Set(from.Field(k))
		}
	}
	for _, p := range []*api.Place{&in.P, &in.Q} {
		p.Steps = slices.Clone(p.Steps)
		for k := range p.Steps {
			switch s := &p.Steps[k]; s.Kind {
			case api.StHeld:
				s.N, s.Size = -5, 1<<40
			case api.StAdd:
				s.Size = -5
			}
		}
	}
	return in
}

func spoiltEnd(t api.Term) api.Term {
	if t.Kind != api.TeIf {
		t.A, t.Else = v(-9), 0
	}
	if t.Kind == api.TeReturn || t.Kind == api.TePanic {
		t.To = 0
	}
	if t.Kind != api.TeReturn {
		t.Args = []api.Operand{v(0), v(99)}
	}
	return t
}

// Fields that an operation does not use may be anything: what is told is the same.
func TestSpoilt(t *testing.T) {
	for seed := range int64(600) {
		l := mixed(seed)
		odd := roomy(reflect.ValueOf(l)).Interface().([]api.Mir)
		for _, f := range odd {
			for k := range f.Blocks {
				b := &f.Blocks[k]
				for at := range b.List {
					b.List[at] = spoiltInstr(b.List[at], at+k)
				}
				b.Term = spoiltEnd(b.Term)
			}
		}
		want, got := lowered(t, l...), lowered(t, odd...)
		if reflect.DeepEqual(l, odd) || !reflect.DeepEqual(want, got) {
			t.Fatalf("seed %d", seed)
		}
	}
}

// span is the memory of a list, spare room too.
type span struct{ from, to uintptr }

// spans tells those of all lists in a value, with what lies in their spare room.
func spans(v reflect.Value) []span {
	var all []span
	switch v.Kind() {
	case reflect.Slice:
		if size := v.Type().Elem().Size() * uintptr(v.Cap()); size > 0 {
			all = append(all, span{v.Pointer(), v.Pointer() + size})
		}
		for k := range v.Cap() {
			all = append(all, spans(v.Slice(0, v.Cap()).Index(k))...)
		}
	case reflect.Struct:
		for k := range v.NumField() {
			all = append(all, spans(v.Field(k))...)
		}
	}
	return all
}

// roomy is a value in new memory, whose lists have spare room with something in it.
func roomy(v reflect.Value) reflect.Value {
	out := reflect.New(v.Type()).Elem()
	switch v.Kind() {
	case reflect.Slice:
		list := reflect.MakeSlice(v.Type(), v.Len()+2, v.Len()+2)
		for k := range v.Len() {
			list.Index(k).Set(roomy(v.Index(k)))
		}
		for k := v.Len(); k < v.Len()+2; k++ {
			mark(list.Index(k))
		}
		out.Set(list.Slice(0, v.Len()))
	case reflect.Struct:
		for k := range v.NumField() {
			out.Field(k).Set(roomy(v.Field(k)))
		}
	default:
		out.Set(v)
	}
	return out
}

func mark(v reflect.Value) {
	switch v.Kind() {
	case reflect.Int:
		v.SetInt(77)
	case reflect.String:
		v.SetString("spare")
	case reflect.Struct:
		for k := range v.NumField() {
			mark(v.Field(k))
		}
	}
}

// whole is a value with the spare room of its lists as parts of them, in new memory.
func whole(v reflect.Value) reflect.Value {
	out := reflect.New(v.Type()).Elem()
	switch v.Kind() {
	case reflect.Slice:
		if v.IsNil() {
			return out
		}
		all := v.Slice(0, v.Cap())
		list := reflect.MakeSlice(v.Type(), all.Len(), all.Len())
		for k := range all.Len() {
			list.Index(k).Set(whole(all.Index(k)))
		}
		out.Set(list)
	case reflect.Struct:
		for k := range v.NumField() {
			out.Field(k).Set(whole(v.Field(k)))
		}
	default:
		out.Set(v)
	}
	return out
}

// wantApart asks whether what is handed in stays as it was, and what is handed out has memory of its own, each list, and is the same again.
func wantApart(t *testing.T, l []api.Mir) {
	t.Helper()
	given := roomy(reflect.ValueOf(l)).Interface().([]api.Mir)
	before := whole(reflect.ValueOf(given)).Interface()
	out, e := lower.Lower(given)
	if !reflect.DeepEqual(before, whole(reflect.ValueOf(given)).Interface()) {
		t.Fatal("what was handed in was changed")
	}
	if again, other := lower.Lower(l); e != other || !reflect.DeepEqual(out, again) {
		t.Fatal("it is not told again")
	}
	all := spans(reflect.ValueOf(out))
	slices.SortFunc(all, func(a, b span) int { return int(int64(a.from) - int64(b.from)) })
	for k := range all {
		if k > 0 && all[k].from < all[k-1].to {
			t.Fatal("two lists share memory")
		}
	}
	for _, s := range spans(reflect.ValueOf(given)) {
		k, _ := slices.BinarySearchFunc(all, s, func(a, b span) int { return int(int64(a.to) - int64(b.from) - 1) })
		if k < len(all) && all[k].from < s.to && s.from < all[k].to {
			t.Fatal("something of what was handed in is handed out")
		}
	}
}

func TestMemory(t *testing.T) {
	wantApart(t, nil)
	wantApart(t, []api.Mir{{Name: "main"}})
	wantApart(t, []api.Mir{starts([]int{512}, show(n(1)))})
	f := fn("f", []int{1, 3}, 2, 2, block(answer(v(0), v(0))))
	wantApart(t, []api.Mir{f, fn("main", []int{1, 1, 1, 3, 1}, 0, 0, block(jump(1), calls([]int{0, 1}, "f", v(0), v(1), n(2), n(3)), addr(2, at(3, step(1)))), block(answer(), show(v(0)), load(4, at(1, held(), step(2)))))})
	for seed := range int64(200) {
		wantApart(t, mixed(seed))
	}
	for seed := range int64(10) {
		items, _ := typed(t, program(seed, 30))
		l, before := folded(t, items)
		wantApart(t, l)
		wantApart(t, before)
	}
	wantApart(t, padded([]api.Mir{f}))
}
