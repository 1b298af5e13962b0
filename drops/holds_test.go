package drops_test

import (
	"reflect"
	"slices"
	"strings"
	"testing"

	"ferrule/api"
	"ferrule/drops"
	shown "ferrule/show"
	"ferrule/types"
)

// P14.3: of which locals something is kept at run time.

// point is one of a function where a local holds a value, or none.
type point struct {
	block, at int
	holds     bool
}

// comesTo tells all points that some way comes to, by going all ways.
func comesTo(f api.Mir, local int) map[point]bool {
	seen := map[point]bool{}
	for next := []point{{}}; len(next) > 0; {
		p := next[len(next)-1]
		next = next[:len(next)-1]
		if seen[p] {
			continue
		}
		seen[p] = true
		b := f.Blocks[p.block]
		if p.at < len(b.List) {
			in := b.List[p.at]
			if in.Dst == local && (in.Op == api.OpGive || in.Op == api.OpTake || in.Op == api.OpClear) {
				p.holds = in.Op == api.OpGive
			}
			next = append(next, point{p.block, p.at + 1, p.holds})
			continue
		}
		switch b.Term.Kind {
		case api.TeGoto:
			next = append(next, point{b.Term.To, 0, p.holds})
		case api.TeIf:
			next = append(next, point{b.Term.To, 0, p.holds}, point{b.Term.Else, 0, p.holds})
		}
	}
	return seen
}

// unsure tells the locals that hold a value on some ways that come to an OpClear of them, and none on others.
func unsure(items []api.Item, f api.Mir) []int {
	var out []int
	for local := range f.Locals {
		var ways map[point]bool
		is := false
		for k, b := range f.Blocks {
			for at, in := range b.List {
				if in.Op != api.OpClear || in.Dst != local || types.Copy(items, in.Type) {
					continue
				}
				if ways == nil {
					ways = comesTo(f, local)
				}
				is = is || ways[point{k, at, true}] && ways[point{k, at, false}]
			}
		}
		if is {
			out = append(out, local)
		}
	}
	return out
}

// pointedTo tells the texts of all types that Boxes point to in values of those that functions let go.
func pointedTo(items []api.Item, l []api.Mir) map[string]bool {
	out, seen := map[string]bool{}, map[string]bool{}
	var walk func(x api.Type)
	walk = func(x api.Type) {
		if seen[shown.Type(x)] || x.Kind == api.TyRef || x.Kind == api.TyMut {
			return
		}
		seen[shown.Type(x)] = true
		for _, e := range x.Elem {
			out[shown.Type(e)] = out[shown.Type(e)] || x.Kind == api.TyBox
			walk(e)
		}
		for _, it := range items {
			if x.Kind != api.TyNamed || it.Name != x.Name || it.Kind == api.ItFunc {
				continue
			}
			for _, f := range it.Params {
				walk(f.Type)
			}
			for _, v := range it.Variants {
				for _, part := range v.Types {
					walk(part)
				}
			}
		}
	}
	for _, f := range l {
		for _, b := range f.Blocks {
			for _, in := range b.List {
				if in.Op == api.OpDrop || in.Op == api.OpClear {
					walk(in.Type)
				}
			}
		}
	}
	return out
}

// wantNoMore asks whether there are no more locals and functions than are needed, of values that have not very many Boxes, and tells of how many locals something is kept.
func wantNoMore(t *testing.T, items []api.Item, l, out []api.Mir) int {
	t.Helper()
	flags := 0
	for k, f := range l {
		kept := unsure(items, f)
		flags += len(kept)
		asking, rich := false, false
		for _, b := range f.Blocks {
			for _, in := range b.List {
				asking = asking || asks(in.Op)
				rich = rich || (in.Op == api.OpDrop || in.Op == api.OpClear) && in.Type.Kind >= api.TyNamed && in.Type.Kind != api.TyBox
			}
		}
		most := 1 // for a Box's address
		if rich {
			most = 5 // for that of a value, too, what is asked of its words, and loops
		}
		if more := len(out[k].Locals) - len(f.Locals); more < len(kept) || more > len(kept)+most {
			t.Fatalf("%s: %d locals more, %d of which something is kept", f.Name, more, len(kept))
		}
		if !asking && !reflect.DeepEqual(f, out[k]) {
			t.Fatalf("%s: it does not stay as it is", f.Name)
		}
		if len(kept) == 0 && !rich && len(out[k].Blocks) != len(f.Blocks) {
			t.Fatalf("%s: %d blocks of %d", f.Name, len(out[k].Blocks), len(f.Blocks))
		}
	}
	texts := pointedTo(items, l)
	for _, f := range out[len(l):] {
		if !texts[strings.TrimPrefix(f.Name, "drop ")] {
			t.Fatalf("%q lets nothing go that a Box points to", f.Name)
		}
	}
	return flags
}

func wantSame(t *testing.T, a, b []api.Mir) {
	t.Helper()
	if !reflect.DeepEqual(a, b) {
		t.Fatalf("%+v\n\n%+v", a, b)
	}
}

// told is what is told of one function, without items.
func told(t *testing.T, f api.Mir) api.Mir {
	t.Helper()
	out, e := drops.Elaborate(nil, []api.Mir{f})
	if e != api.OK || len(out) != 1 {
		t.Fatalf("%d, %d functions", int(e), len(out))
	}
	return out[0]
}

// A local that holds a Box; its OpClear is OpFree, or nothing, or a question.
func TestStates(t *testing.T) {
	box := boxed(u8)
	for _, c := range []struct {
		what  string
		f     api.Mir
		frees []int // of each block as it was, how many OpFrees stand in it
		flags int
	}{
		{"on all ways", fn("main", []int{1}, 0, 0, block(answer(), give(0), empty(box, 0))), []int{1}, 0},
		{"on none", fn("main", []int{1}, 0, 0, block(answer(), empty(box, 0))), []int{0}, 0},
		{"taken", fn("main", []int{1}, 0, 0, block(answer(), give(0), take(0), empty(box, 0))), []int{0}, 0},
		{"given and taken, and given", fn("main", []int{1}, 0, 0, block(answer(), give(0), take(0), take(0), give(0), give(0), empty(box, 0))), []int{1}, 0},
		{"cleared twice", fn("main", []int{1}, 0, 0, block(answer(), give(0), empty(box, 0), empty(box, 0))), []int{1}, 0},
		{"cleared and given", fn("main", []int{1}, 0, 0, block(answer(), give(0), empty(box, 0), give(0), empty(box, 0))), []int{2}, 0},
		{"a param holds none at first", fn("main", []int{1}, 1, 0, block(answer(), empty(box, 0))), []int{0}, 0},
		{"in other blocks", fn("main", []int{1}, 0, 0, block(jump(2), give(0)), block(answer(), empty(box, 0)), block(jump(1))), []int{0, 1, 0}, 0},
		{"on both", fn("main", []int{1, 1}, 0, 0, block(branch(v(1), 1, 2)), block(jump(3), give(0)), block(jump(3), give(0)), block(answer(), empty(box, 0))), []int{0, 0, 0, 1}, 0},
		{"on one of two", fn("main", []int{1, 1}, 0, 0, block(branch(v(1), 1, 2)), block(jump(3), give(0)), block(jump(3)), block(answer(), empty(box, 0))), []int{0, 0, 0, 0}, 1},
		{"taken on one of two", fn("main", []int{1, 1}, 0, 0, block(branch(v(1), 1, 2), give(0)), block(jump(3), take(0)), block(jump(3)), block(answer(), empty(box, 0))), []int{0, 0, 0, 0}, 1},
		{"taken on the other", fn("main", []int{1, 1}, 0, 0, block(branch(v(1), 1, 2), give(0)), block(jump(2), take(0)), block(answer(), empty(box, 0))), []int{0, 0, 0}, 1},
		{"a number decides nothing", fn("main", []int{1, 1}, 0, 0, block(branch(n(1), 1, 2), give(0)), block(jump(2), take(0)), block(answer(), empty(box, 0))), []int{0, 0, 0}, 1},
		{"on some ways, and then on all", fn("main", []int{1, 1}, 0, 0, block(branch(v(1), 1, 2), give(0)), block(jump(2), take(0)), block(answer(), give(0), empty(box, 0))), []int{0, 0, 1}, 0},
		{"on some ways, and then on none", fn("main", []int{1, 1}, 0, 0, block(branch(v(1), 1, 2), give(0)), block(jump(2), take(0)), block(answer(), take(0), empty(box, 0))), []int{0, 0, 0}, 0},
		{"on some, and there again", fn("main", []int{1, 1}, 0, 0, block(branch(v(1), 1, 2), give(0)), block(jump(2), take(0)), block(answer(), empty(box, 0), empty(box, 0), give(0), empty(box, 0))), []int{0, 0, 0}, 1},
		{"a loop", fn("main", []int{1, 1}, 0, 0, block(jump(1)), block(branch(v(1), 2, 3)), block(jump(1), give(0), empty(box, 0)), block(answer())), []int{0, 0, 1, 0}, 0},
		{"given in a loop", fn("main", []int{1, 1}, 0, 0, block(jump(1)), block(branch(v(1), 2, 3)), block(jump(1), empty(box, 0), give(0)), block(answer(), empty(box, 0))), []int{0, 0, 0, 0}, 1},
		{"given ahead of a loop", fn("main", []int{1, 1}, 0, 0, block(jump(1), give(0)), block(branch(v(1), 2, 3)), block(jump(1), empty(box, 0), give(0)), block(answer(), empty(box, 0))), []int{0, 0, 1, 1}, 0},
		{"the first block again", fn("main", []int{1, 1}, 0, 0, block(branch(v(1), 0, 1), empty(box, 0), give(0)), block(answer(), empty(box, 0))), []int{0, 1}, 1},
		{"the first block again, with none", fn("main", []int{1, 1}, 0, 0, block(branch(v(1), 0, 1), empty(box, 0), give(0), take(0)), block(answer(), empty(box, 0))), []int{0, 0}, 0},
		{"where nothing comes to", fn("main", []int{1}, 0, 0, block(answer()), block(jump(0), give(0), empty(box, 0)), block(answer(), empty(box, 0))), []int{0, 0, 0}, 0},
		{"from where nothing comes to", fn("main", []int{1}, 0, 0, block(jump(2), give(0)), block(jump(2), take(0)), block(answer(), empty(box, 0))), []int{0, 0, 1}, 0},
		{"a panic goes nowhere", fn("main", []int{1}, 0, 0, block(branch(v(0), 1, 2), give(0)), block(api.Term{Kind: api.TePanic, To: 2, Else: 2}, take(0)), block(answer(), empty(box, 0))), []int{0, 0, 1}, 0},
		{"an answer goes nowhere", fn("main", []int{1}, 0, 0, block(branch(v(0), 1, 2), give(0)), block(api.Term{Kind: api.TeReturn, To: 2, Else: 2}, take(0)), block(answer(), empty(box, 0))), []int{0, 0, 1}, 0},
		{"a goto has no else", fn("main", []int{1}, 0, 0, block(branch(v(0), 1, 2), give(0)), block(api.Term{Kind: api.TeGoto, To: 3, Else: 2}, take(0)), block(answer(), empty(box, 0)), block(answer())), []int{0, 0, 1, 0}, 0},
		{"another local's", fn("main", []int{1, 1}, 0, 0, block(branch(v(1), 1, 2), give(0)), block(jump(2), take(1), give(1)), block(answer(), empty(box, 0))), []int{0, 0, 1}, 0},
		{"what owns nothing", fn("main", []int{1, 1}, 0, 0, block(branch(v(1), 1, 2), give(0)), block(jump(2), take(0)), block(answer(), empty(u8, 0), empty(box, 0))), []int{0, 0, 0}, 0},
		{"what owns nothing lets it hold none", fn("main", []int{1, 1}, 0, 0, block(branch(v(1), 1, 2), give(0)), block(jump(2), take(0)), block(branch(v(1), 3, 4), empty(u8, 0)), block(jump(4), give(0)), block(answer(), empty(box, 0))), []int{0, 0, 0, 0, 0}, 1},
		{"nothing asks", fn("main", []int{1, 1}, 0, 0, block(branch(v(1), 1, 2), give(0)), block(jump(2), take(0)), block(answer())), []int{0, 0, 0}, 0},
		{"other operations say nothing", fn("main", []int{1, 1}, 0, 0, block(branch(v(1), 1, 2), give(0)), block(jump(2), alloc(0, 1), set(0, n(1)), drop(u8, at(0)), read(0)), block(answer(), empty(box, 0))), []int{0, 0, 1}, 0},
		{"two of them", fn("main", []int{1, 1, 1}, 0, 0, block(branch(v(2), 1, 2), give(0), give(1)), block(jump(2), take(0), take(1)), block(answer(), empty(box, 0), empty(box, 1))), []int{0, 0, 0}, 2},
		{"one of two", fn("main", []int{1, 1, 1}, 0, 0, block(branch(v(2), 1, 2), give(0), give(1)), block(jump(2), take(1)), block(answer(), empty(box, 0), empty(box, 1))), []int{0, 0, 1}, 1},
	} {
		got := told(t, c.f)
		if more := len(got.Locals) - len(c.f.Locals); more != c.flags {
			t.Errorf("%s: %d locals more", c.what, more)
		}
		for k, want := range c.frees {
			frees := 0
			for _, in := range got.Blocks[k].List {
				if in.Op == api.OpFree {
					frees++
				}
			}
			if frees != want {
				t.Errorf("%s: %d are let go in block %d, not %d", c.what, frees, k, want)
			}
		}
		wantNoMore(t, nil, []api.Mir{c.f}, []api.Mir{got})
	}
}

// The example of the chapter: where it is known what a Box holds, its OpClear is OpFree; where not, a local more tells it.
func TestExample(t *testing.T) {
	l, list := taken(t, "fn main() { let b = Box::new(1); }")
	out := elaborated(t, l, list)
	want := slices.DeleteFunc(slices.Clone(list[0].Blocks[0].List), func(in api.Instr) bool { return in.Op == api.OpGive })
	for k, in := range want {
		if in.Op == api.OpClear {
			want[k] = free(v(in.Dst))
		}
	}
	if len(out) != 1 || !slices.Equal(out[0].Locals, list[0].Locals) || !reflect.DeepEqual(out[0].Blocks[0].List, want) {
		t.Errorf("%+v", out)
	}
	l, list = taken(t, "fn take(b: Box<i32>) {} fn main() { let b = Box::new(1); if read() == 1 { take(b); } }")
	out = elaborated(t, l, list)
	if len(out) != 2 || len(out[0].Locals) != len(list[0].Locals) || len(out[1].Locals) != len(list[1].Locals)+1 {
		t.Errorf("%+v", out)
	}
	for _, input := range []int{0, 1} {
		wantAgree(t, l, list, []int{input})
	}
}

// What is told of each operation, wholly.
func TestForms(t *testing.T) {
	box := boxed(u8)
	items := []api.Item{structure("Inner", u8, box), structure("Outer", u8, named("Inner")), structure("Thin", ty(api.TyUnit), array(1, box)), structure("Two", box, u8, box), structure("Ten", slices.Repeat(of(box), 10)...), structure("Plain", u8, ty(api.TyMut, box), array(0, box)), enum("Choice", nil, of(u8, named("Plain")))}
	for _, c := range []struct {
		what   string
		locals []int
		in     api.Instr
		want   []api.Instr
		more   int
	}{
		{"a Box in a scalar", []int{1}, drop(box, at(0)), []api.Instr{free(v(0))}, 0},
		{"a struct of a Box in a scalar", []int{1}, drop(named("Thin"), at(0)), []api.Instr{free(v(0))}, 0},
		{"a Box in a place", []int{2}, drop(box, at(0, step(1))), []api.Instr{load(1, at(0, step(1))), free(v(1))}, 1},
		{"a Box in a local of more words", []int{2}, drop(box, at(0)), []api.Instr{load(1, at(0)), free(v(1))}, 1},
		{"a Box that something points to", []int{1}, drop(box, at(0, held())), []api.Instr{load(1, at(0, held())), free(v(1))}, 1},
		{"a Box by an index", []int{4, 1}, drop(box, at(0, times(1, 1))), []api.Instr{load(2, at(0, times(1, 1))), free(v(2))}, 1},
		{"a part", []int{3}, drop(named("Inner"), at(0)), []api.Instr{load(1, at(0, step(1))), free(v(1))}, 1},
		{"a part of a part", []int{1}, drop(array(1, named("Outer")), at(0, held())), []api.Instr{load(1, at(0, held(), step(1), step(1))), free(v(1))}, 1},
		{"a Box of a Box", []int{1}, drop(boxed(box), at(0)), []api.Instr{calls(nil, "drop Box<u8>", v(0)), free(v(0))}, 0},
		{"a part's Box of a Box", []int{2}, drop(boxed(named("Outer")), at(0, step(1))), []api.Instr{load(1, at(0, step(1))), calls(nil, "drop Outer", v(1)), free(v(1))}, 1},
		{"two Boxes", []int{3}, drop(named("Two"), at(0)), []api.Instr{load(1, at(0)), free(v(1)), load(1, at(0, step(2))), free(v(1))}, 1},
		{"two Boxes that something points to", []int{3}, drop(named("Two"), at(0, step(1), held())), []api.Instr{addr(1, at(0, step(1), held())), load(2, at(1, held())), free(v(2)), load(2, at(1, held(), step(2))), free(v(2))}, 2},
		{"very many Boxes", []int{20}, drop(named("Ten"), at(0, step(1))), []api.Instr{addr(1, at(0, step(1))), calls(nil, "drop Ten", v(1))}, 1},
		{"what owns nothing", []int{2}, drop(u8, at(0, step(1))), nil, 0},
		{"a struct that owns nothing", []int{2}, drop(named("Plain"), at(0)), nil, 0},
		{"an enum that owns nothing", []int{4}, drop(named("Choice"), at(0)), nil, 0},
		{"an array that owns nothing", []int{9}, drop(array(3, named("Choice")), at(0)), nil, 0},
		{"a Box of what owns nothing", []int{1}, drop(boxed(array(3, named("Choice"))), at(0)), []api.Instr{free(v(0))}, 0},
		{"what owns nothing, where something points to", []int{2}, drop(ty(api.TyRef, box), at(0, held(), step(1))), []api.Instr{move(0, at(0, held(), step(1)), at(0, held(), step(1)))}, 0},
	} {
		l := []api.Mir{starts(c.locals, show(n(1)), c.in, show(n(2)))}
		out := elaborated(t, items, l)
		want := starts(slices.Concat(c.locals, []int{1, 1}[:c.more]), slices.Concat([]api.Instr{show(n(1))}, c.want, []api.Instr{show(n(2))})...)
		if !reflect.DeepEqual(plain(out[0]), plain(want)) {
			t.Errorf("%s: %+v, not %+v", c.what, out[0], want)
		}
	}
}

// plain is a function whose lists without an element are nil.
func plain(f api.Mir) api.Mir {
	f.Blocks = slices.Clone(f.Blocks)
	for k := range f.Blocks {
		f.Blocks[k].List = slices.Clone(f.Blocks[k].List)
		for at := range f.Blocks[k].List {
			in := &f.Blocks[k].List[at]
			if len(in.P.Steps) == 0 {
				in.P.Steps = nil
			}
			if len(in.Q.Steps) == 0 {
				in.Q.Steps = nil
			}
		}
	}
	return f
}

// The same scalars do for all that is let go in a function.
func TestScalarsAreUsedAgain(t *testing.T) {
	many := append(kinds(), structure("Ten", slices.Repeat(of(boxed(u8)), 10)...))
	for _, c := range []struct {
		what string
		x    api.Type
		p    api.Place
		more int
	}{
		{"a Box", boxed(u8), at(0), 1}, {"two Boxes", named("Pair"), at(0), 1}, {"two Boxes by an address", named("Pair"), at(0, held()), 2}, {"very many", named("Ten"), at(0, held()), 1}, {"an array", array(3, boxed(u8)), at(0), 3}, {"arrays in arrays", array(2, array(3, array(2, boxed(u8)))), at(0, held()), 6}, {"an enum", named("List"), at(0), 2}, {"an array of enums", array(2, named("List")), at(0), 3},
	} {
		out := elaborated(t, many, []api.Mir{starts([]int{128}, slices.Repeat([]api.Instr{drop(c.x, c.p)}, 50)...)})
		if more := len(out[0].Locals) - 1; more != c.more {
			t.Errorf("%s: %d locals more", c.what, more)
		}
	}
	// Of loops one behind the other one scalar counts the turns, in a function of its own too.
	items := []api.Item{structure("S", array(2, boxed(u8)), array(3, array(2, boxed(u8))), array(4, boxed(u8)))}
	out := elaborated(t, items, []api.Mir{starts([]int{1}, drop(boxed(named("S")), at(0)))})
	if len(out) != 2 || len(out[1].Locals) != 1+2+2 {
		t.Errorf("%d functions, %v", len(out), out[1].Locals)
	}
}

// A function that lets go what is of one type is there once, whoever asks for it.
func TestFunctionsAreShared(t *testing.T) {
	l, list := taken(t, inMain("let a = Box::new(q()); let b = Box::new(q()); f(Box::new(q()), L::N); g(L::C(Box::new(L::N))); let x = [Box::new(Box::new(1)), Box::new(Box::new(2))]; let y = Box::new(Box::new(2)); Box::new(L::N);")+" fn f(a: Box<Q>, l: L) {} fn g(l: L) {}")
	out := elaborated(t, l, list)
	var names []string
	for _, f := range out[len(list):] {
		names = append(names, f.Name)
	}
	slices.Sort(names)
	if want := []string{"drop Box<i32>", "drop L", "drop Q"}; !slices.Equal(names, want) {
		t.Errorf("%q, not %q", names, want)
	}
}
