package borrow

import (
	"slices"
	"strings"
	"testing"

	"ferrule/api"
	"ferrule/types"
)

// spot is something that is run: what it uses, moves away or gives (slots, or none below 0), and where it may go on.
type spot struct {
	at                int
	use, moves, gives int
	wrong             api.Errno // whatever is moved away
	next              []int
}

// graph is the spots of a function, in the order in which its trees are gone through.
type graph struct {
	items []api.Item
	spots []spot
	here  []int // from which the next spot is come to
	loops [][2]*[]int
}

// add adds a spot that is come to from here.
func (g *graph) add(s spot) int {
	k := len(g.spots)
	g.spots = append(g.spots, s)
	for _, from := range g.here {
		g.spots[from].next = append(g.spots[from].next, k)
	}
	g.here = []int{k}
	return k
}

func quiet(at int) spot { return spot{at: at, use: -1, moves: -1, gives: -1} }

func (g *graph) fault(at int, e api.Errno) {
	s := quiet(at)
	s.wrong = e
	g.add(s)
}

func (g *graph) value(x api.Expr) {
	switch x.Kind {
	case api.ExVar, api.ExField, api.ExIndex, api.ExDeref:
		isCopied := types.Copy(g.items, x.Type)
		if !isCopied && x.Kind != api.ExVar {
			g.fault(x.At, api.ErrMove)
			return
		}
		g.look(x)
		if !isCopied {
			s := quiet(x.At)
			s.moves = x.Num
			g.add(s)
		}
	case api.ExCall:
		g.call(x)
	case api.ExBin, api.ExIf, api.ExMatch:
		g.branches(x)
	case api.ExWhile, api.ExLoop:
		g.loop(x)
	case api.ExBreak:
		to := g.loops[len(g.loops)-1][0]
		*to = append(*to, g.here...)
		g.here = nil
	case api.ExNext:
		to := g.loops[len(g.loops)-1][1]
		*to = append(*to, g.here...)
		g.here = nil
	case api.ExAssign:
		g.value(x.Kids[1])
		if x.Kids[0].Kind == api.ExVar {
			g.give(x.Kids[0].Num, x.At)
		} else {
			g.look(x.Kids[0])
		}
	default:
		for _, kid := range x.Kids {
			g.value(kid)
		}
		if x.Kind == api.ExLet {
			g.give(x.Num/2, x.At)
		}
		if x.Kind == api.ExReturn {
			g.here = nil
		}
	}
}

func (g *graph) give(slot, at int) {
	s := quiet(at)
	s.gives = slot
	g.add(s)
}

// look goes from the root outwards by going inwards first.
func (g *graph) look(x api.Expr) {
	if x.Kind == api.ExVar {
		s := quiet(x.At)
		s.use = x.Num
		g.add(s)
		return
	}
	g.look(x.Kids[0])
	if x.Kind != api.ExIndex {
		return
	}
	g.value(x.Kids[1])
	if in := listed(x.Kids[1], 0, false); g.isChanged(in, words(x)[0][1]) {
		g.fault(x.Kids[1].At, api.ErrShared)
	}
}

// words tells a place: first its variable's slot, then its steps; -1: no number.
func words(x api.Expr) [][2]int {
	switch {
	case x.Kind == api.ExVar:
		return [][2]int{{x.Kind, x.Num}}
	case x.Kind == api.ExField:
		return append(words(x.Kids[0]), [2]int{x.Kind, x.Num})
	case x.Kind == api.ExIndex && x.Kids[1].Kind == api.ExInt:
		return append(words(x.Kids[0]), [2]int{x.Kind, x.Kids[1].Num})
	}
	return append(words(x.Kids[0]), [2]int{x.Kind, -1})
}

func mayBeSame(a, b [][2]int) bool {
	for k := range min(len(a), len(b)) {
		if a[k][0] == b[k][0] && a[k][1] != b[k][1] && (k == 0 || a[k][1] >= 0 && b[k][1] >= 0) {
			return false
		}
	}
	return true
}

// member is a tree of another one: of what kind of tree it is a kid, and whether its first one.
type member struct {
	api.Expr
	of    int
	first bool
}

// listed tells a tree, and all in it, in one list.
func listed(x api.Expr, of int, first bool) []member {
	all := []member{{x, of, first}}
	for k, kid := range x.Kids {
		all = append(all, listed(kid, x.Kind, k == 0)...)
	}
	return all
}

func isIn(list []member, slot int) bool {
	return slices.ContainsFunc(list, func(m member) bool { return m.Kind == api.ExVar && m.Num == slot })
}

func (g *graph) isChanged(list []member, slot int) bool {
	for _, m := range list {
		assigned := m.Kind == api.ExAssign || m.Kind == api.ExBorrow && m.Num == 1
		if assigned && words(m.Kids[0])[0][1] == slot {
			return true
		}
		if m.Kind != api.ExVar || m.Num != slot {
			continue
		}
		isPart := m.first && (m.of == api.ExField || m.of == api.ExIndex || m.of == api.ExDeref || m.of == api.ExBorrow)
		if m.Type.Kind == api.TyMut || !isPart && !types.Copy(g.items, m.Type) {
			return true
		}
	}
	return false
}

// lent tells the place that an argument borrows, if it does, and whether alone.
func lent(x api.Expr) (place [][2]int, alone bool) {
	switch {
	case x.Kind == api.ExBorrow:
		return words(x.Kids[0]), x.Num == 1
	case x.Kind == api.ExVar && (x.Type.Kind == api.TyRef || x.Type.Kind == api.TyMut):
		return append(words(x), [2]int{api.ExDeref, -1}), x.Type.Kind == api.TyMut
	}
	return nil, false
}

func (g *graph) call(x api.Expr) {
	for _, arg := range x.Kids {
		switch place, _ := lent(arg); {
		case place == nil:
			g.value(arg)
		case arg.Kind == api.ExVar:
			g.look(arg)
		default:
			g.look(arg.Kids[0])
		}
	}
	for j, arg := range x.Kids {
		own, ownAlone := lent(arg)
		for _, other := range x.Kids[:j] {
			place, alone := lent(other)
			if place == nil {
				continue
			}
			in := listed(arg, 0, false)
			if own != nil && mayBeSame(place, own) && (alone || ownAlone) || own == nil && (alone && isIn(in, place[0][1]) || g.isChanged(in, place[0][1])) {
				g.fault(arg.At, api.ErrShared)
			}
		}
	}
}

// branches goes through trees of which some may not be run.
func (g *graph) branches(x api.Expr) {
	g.value(x.Kids[0])
	from := g.here
	var behind []int
	switch {
	case x.Kind == api.ExBin && x.Text != "&&" && x.Text != "||":
		g.value(x.Kids[1])
		return
	case x.Kind == api.ExBin || len(x.Kids) == 2 && x.Kind == api.ExIf:
		behind = slices.Clone(from)
	}
	for _, kid := range x.Kids[1:] {
		g.here = slices.Clone(from)
		if x.Kind == api.ExMatch {
			for _, bind := range kid.Kids[0].Kids {
				g.give(bind.Num, bind.At)
			}
			kid = kid.Kids[1]
		}
		g.value(kid)
		behind = append(behind, g.here...)
	}
	g.here = behind
}

func (g *graph) loop(x api.Expr) {
	var left, again []int
	head := g.add(quiet(x.At))
	g.loops = append(g.loops, [2]*[]int{&left, &again})
	if x.Kind == api.ExWhile {
		g.value(x.Kids[0])
		left = append(left, g.here...)
	}
	g.value(x.Kids[len(x.Kids)-1])
	g.loops = g.loops[:len(g.loops)-1]
	for _, from := range append(again, g.here...) {
		g.spots[from].next = append(g.spots[from].next, head)
	}
	g.here = left
}

// firstWrong goes over the spots again and again, until no more is moved away anywhere; then the first spot tells, at which something is wrong.
func (g *graph) firstWrong() (int, api.Errno) {
	come := map[int]map[int]bool{0: {}}
	for changed := true; changed; {
		changed = false
		for k, s := range g.spots {
			if come[k] == nil {
				continue
			}
			for _, to := range s.next {
				if come[to] == nil {
					come[to], changed = map[int]bool{}, true
				}
				for slot := range come[k] {
					if slot != s.gives && !come[to][slot] {
						come[to][slot], changed = true, true
					}
				}
				if s.moves >= 0 && !come[to][s.moves] {
					come[to][s.moves], changed = true, true
				}
			}
		}
	}
	for k, s := range g.spots {
		if s.wrong != api.OK {
			return s.at, s.wrong
		}
		if s.use >= 0 && come[k][s.use] {
			return s.at, api.ErrMoved
		}
	}
	return 0, api.OK
}

// expected tells what is wrong first with a program, by graphs of its functions.
func expected(l []api.Item) (int, api.Errno) {
	for _, it := range l {
		if it.Kind != api.ItFunc {
			continue
		}
		g := &graph{items: l}
		g.add(quiet(0))
		g.value(it.Body)
		if at, e := g.firstWrong(); e != api.OK {
			return at, e
		}
	}
	return 0, api.OK
}

// TestByChance holds Check against graphs of programs that are made by chance, small and great ones.
func TestByChance(t *testing.T) {
	seen := map[api.Errno]int{}
	for seed := range 5000 {
		text := program(int64(seed), 10+seed%60, false)
		l := typed(t, text)
		at, e := expected(l)
		seen[e]++
		wantFault(t, l, text, at, e)
		if t.Failed() {
			t.Fatal("seed", seed)
		}
	}
	for _, e := range []api.Errno{api.OK, api.ErrMoved, api.ErrMove, api.ErrShared} {
		if seen[e] < 200 {
			t.Errorf("%d only %d times: %v", int(e), seen[e], seen)
		}
	}
}

// TestCopiedTypes is P8.3: where all types are copied, and nothing is borrowed, nothing is wrong.
func TestCopiedTypes(t *testing.T) {
	for seed := range 2000 {
		text := program(int64(seed), 10+seed%60, true)
		wantFault(t, typed(t, text), text, 0, api.OK)
	}
}

// TestUsedTwice is P8.3, too: a variable of another type that is used twice as a value, in a row.
func TestUsedTwice(t *testing.T) {
	uses := []string{"VAR;", "let d = VAR;", "let d: TYPE = VAR;", "Box::new(VAR);", "[VAR];", "{ VAR };", "let d = { VAR };", "take(VAR);", "let d = H { a: VAR };", "G::A(VAR);", "w = VAR;", "loop { VAR; break; }", "if yes() { VAR; } else { VAR; }"}
	for _, typ := range []string{"Box<i32>", "Box<P>", "Box<()>", "Box<Box<i32>>", "[Box<i32>; 2]", "E", "S"} {
		for _, first := range uses {
			for _, second := range uses {
				body := strings.ReplaceAll(first, "VAR", "v") + " " + strings.ReplaceAll(strings.Replace(second, "VAR", "@v", 1), "VAR", "v")
				text := "fn it(v: TYPE, mut w: TYPE) { " + body + " } fn take(v: TYPE) {} struct H { a: TYPE } enum G { A(TYPE) } struct S { a: i32, b: [E; 1] } fn main() {}" + others
				wantProgram(t, api.ErrMoved, strings.ReplaceAll(text, "TYPE", typ))
			}
		}
	}
}
