package typeck

import (
	"math/rand"
	"reflect"
	"slices"
	"strconv"
	"strings"
	"testing"

	"ferrule/api"
	"ferrule/types"
)

// made is a program that was made: its text, and how the bodies of its functions must be told.
type made struct {
	text   string
	bodies map[string]string
	e      api.Errno
}

func makeProgram(t *testing.T, seed int, faulty bool) made {
	m := &maker{chance: rand.New(rand.NewSource(int64(seed))), items: mustParse(t, "fn main() {}"+others), wrong: -1}
	if faulty {
		m.wrong = 1 + m.chance.Intn(40)
	}
	m.calls = slices.DeleteFunc(slices.Clone(m.items), func(it api.Item) bool { return it.Kind != api.ItFunc || it.Name == "give" })
	var own []api.Item
	for k := range 1 + m.chance.Intn(3) {
		own = append(own, m.signature("f"+strconv.Itoa(k)))
	}
	own = append(own, api.Item{Kind: api.ItFunc, Name: "main", Type: typeOf(api.TyUnit)})
	m.calls = append(m.calls, own[:len(own)-1]...)
	out := made{bodies: map[string]string{}}
	for _, f := range own {
		body := m.function(f)
		var params []string
		for _, p := range f.Params {
			word := ""
			if p.Mut {
				word = "mut "
			}
			params = append(params, word+p.Name+": "+tellType(p.Type))
		}
		out.text += "fn " + f.Name + "(" + strings.Join(params, ", ") + ") -> " + tellType(f.Type) + " " + body.text + "\n"
		out.bodies[f.Name] = body.told
	}
	out.text += others
	out.e = m.e
	return out
}

// signature makes a function's params and answer, of few enough words.
func (m *maker) signature(name string) api.Item {
	f := api.Item{Kind: api.ItFunc, Name: name, Type: m.anyType()}
	words := 0
	for range m.chance.Intn(5) {
		t := m.anyType()
		if m.oneOf(2) {
			t = typeOf(pick(m, api.TyRef, api.TyMut), t)
		}
		n, _ := types.Words(m.items, t)
		if words += n; words > api.MaxPass {
			break
		}
		f.Params = append(f.Params, api.Param{Name: "a" + strconv.Itoa(len(f.Params)), Type: t, Mut: m.oneOf(2)})
	}
	return f
}

func (m *maker) function(f api.Item) piece {
	m.scope, m.slots, m.loops, m.answer, m.room = nil, len(f.Params), nil, f.Type, 10+m.chance.Intn(60)
	for k, p := range f.Params {
		m.scope = append(m.scope, variable{p.Name, p.Type, k, p.Mut})
	}
	return m.block(f.Type, true, true)
}

const turns = 3000

// TestMadeByChance: programs that nothing is against are told as their parts say; behind show and parse, too.
func TestMadeByChance(t *testing.T) {
	seen := map[string]int{}
	for seed := range turns {
		p := makeProgram(t, seed, false)
		l := mustParse(t, p.text)
		told, at, e := Check(l)
		if e != api.OK {
			t.Fatalf("seed %d: %d at %d: %.40s\nof %s", seed, int(e), at, p.text[at:], p.text)
		}
		for name, want := range p.bodies {
			if got := tellTree(told[types.Find(told, api.ItFunc, name)].Body); got != want {
				t.Fatalf("seed %d: %s\nis told as %s\n      not as %s", seed, p.text, got, want)
			}
		}
		if seed%10 == 0 {
			wantAgain(t, l, told)
			wantSound(t, l, told)
			wantOwnMemory(t, l, told)
		}
		for _, x := range everyTree(told) {
			seen[kindNames[x.Kind]+":"+tellType(x.Type)]++
			seen[kindNames[x.Kind]]++
		}
	}
	for kind, name := range kindNames {
		if seen[name] < 100 {
			t.Errorf("%s (%d) only %d times", name, kind, seen[name])
		}
	}
	for _, name := range []string{"block:!", "if:()", "loop:!", "loop:()", "arm:!", "let:!", "assign:!", "stmt:!", "bin:u8", "bin:bool", "not:bool", "neg:i16", "call:E", "borrow:&P", "borrow:&mut u8", "var:&mut u8", "init:!"} {
		if seen[name] < 3 {
			t.Errorf("%s only %d times", name, seen[name])
		}
	}
}

// TestFaultsByChance: programs with one thing wrong, wherever it stands.
func TestFaultsByChance(t *testing.T) {
	seen := map[api.Errno]int{}
	for seed := range turns {
		p := makeProgram(t, seed, true)
		seen[p.e]++
		if p.e == api.OK {
			continue
		}
		if strings.Count(p.text, "@") != 1 {
			t.Fatalf("seed %d: %s", seed, p.text)
		}
		wantWrong(t, p.e, p.text)
		if t.Failed() {
			t.Fatalf("seed %d: %s", seed, p.text)
		}
	}
	for _, e := range []api.Errno{api.OK, api.ErrName, api.ErrCount, api.ErrBorrow, api.ErrPlace, api.ErrMutable, api.ErrRange, api.ErrType, api.ErrMove, api.ErrSize, api.ErrMatch, api.ErrTwice, api.ErrLoop} {
		if seen[e] < 10 {
			t.Errorf("%d only %d times", int(e), seen[e])
		}
	}
}

// lists tells where each list of a program's items begins, and each one that lies in its spare room.
func lists(l []api.Item) map[uintptr]int {
	all := map[uintptr]int{}
	add := func(v any) {
		list := reflect.ValueOf(v)
		size := list.Type().Elem().Size()
		for k := range list.Cap() {
			all[list.Pointer()+uintptr(k)*size]++
		}
	}
	var types func(list []api.Type)
	types = func(list []api.Type) {
		add(list)
		for _, t := range list {
			types(t.Elem)
		}
	}
	var trees func(list []api.Expr)
	trees = func(list []api.Expr) {
		add(list)
		for _, x := range list {
			trees(x.Kids)
			types(x.Ty)
			types(x.Type.Elem)
		}
	}
	add(l)
	for _, it := range l {
		add(it.Params)
		add(it.Variants)
		types(it.Type.Elem)
		for _, p := range it.Params {
			types(p.Type.Elem)
		}
		for _, v := range it.Variants {
			types(v.Types)
		}
		trees(it.Body.Kids)
		types(it.Body.Ty)
		types(it.Body.Type.Elem)
	}
	return all
}

// wantOwnMemory: what is told shares no list with what was given, and no two lists of it share any.
func wantOwnMemory(t *testing.T, given, told []api.Item) {
	t.Helper()
	theirs := lists(given)
	for at, n := range lists(told) {
		if n > 1 {
			t.Fatal("two lists share memory")
		}
		if theirs[at] > 0 {
			t.Fatal("a list is shared with what was given")
		}
	}
}

// TestOwnMemory: of the good program, and with spare room, which is neither read nor written.
func TestOwnMemory(t *testing.T) {
	l := goodItems(t)
	roomy := func() []api.Item {
		other := append(copied(l), api.Item{Kind: 77, Name: "main"})[:len(l)]
		for _, x := range slices.Backward(everyTree(other)) { // kids ahead of those that they are copied with
			x.Kids = append(slices.Clip(x.Kids), api.Expr{Kind: 88, At: 5})[:len(x.Kids)]
			x.Ty = append(slices.Clip(x.Ty), api.Type{Kind: 99})[:len(x.Ty)]
		}
		return other
	}
	other := roomy()
	told, at, e := Check(other)
	if e != api.OK || at != 0 {
		t.Fatal(at, int(e))
	}
	wantOwnMemory(t, other, told)
	plain, _, _ := Check(l)
	if tellAll(plain) != tellAll(told) {
		t.Error("spare room was read")
	}
	if other[:len(other)+1][len(other)].Kind != 77 {
		t.Error("spare room of the items was written")
	}
	for _, x := range everyTree(other) {
		if x.Kids[:len(x.Kids)+1][len(x.Kids)].Kind != 88 || x.Ty[:len(x.Ty)+1][len(x.Ty)].Kind != 99 {
			t.Fatal("spare room was written")
		}
	}
	if !reflect.DeepEqual(other, roomy()) {
		t.Error("what was given is changed")
	}
}
