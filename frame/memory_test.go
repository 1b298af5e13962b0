package frame_test

import (
	"reflect"
	"slices"
	"testing"

	"ferrule/api"
	"ferrule/frame"
)

// part is the memory of a list, spare room too.
type part struct{ from, to uintptr }

// parts tells those of all lists in a value, with what lies in their spare room.
func parts(v reflect.Value) []part {
	var all []part
	switch v.Kind() {
	case reflect.Slice:
		if size := v.Type().Elem().Size() * uintptr(v.Cap()); size > 0 {
			all = append(all, part{v.Pointer(), v.Pointer() + size})
		}
		for k := range v.Cap() {
			all = append(all, parts(v.Slice(0, v.Cap()).Index(k))...)
		}
	case reflect.Struct:
		for k := range v.NumField() {
			all = append(all, parts(v.Field(k))...)
		}
	}
	return all
}

// roomy is a value in new memory, whose lists have spare room with something in it.
func roomy(v reflect.Value) reflect.Value {
	out := reflect.New(v.Type()).Elem()
	switch v.Kind() {
	case reflect.Slice:
		list := reflect.MakeSlice(v.Type(), v.Len()+2, v.Len()+2)
		for k := range v.Len() {
			list.Index(k).Set(roomy(v.Index(k)))
		}
		for k := v.Len(); k < v.Len()+2; k++ {
			mark(list.Index(k))
		}
		out.Set(list.Slice(0, v.Len()))
	case reflect.Struct:
		for k := range v.NumField() {
			out.Field(k).Set(roomy(v.Field(k)))
		}
	default:
		out.Set(v)
	}
	return out
}

func mark(v reflect.Value) {
	switch v.Kind() {
	case reflect.Int:
		v.SetInt(77)
	case reflect.String:
		v.SetString("spare")
	case reflect.Struct:
		for k := range v.NumField() {
			mark(v.Field(k))
		}
	}
}

// whole is a value with the spare room of its lists as parts of them, in new memory.
func whole(v reflect.Value) reflect.Value {
	out := reflect.New(v.Type()).Elem()
	switch v.Kind() {
	case reflect.Slice:
		if v.IsNil() {
			return out
		}
		all := v.Slice(0, v.Cap())
		list := reflect.MakeSlice(v.Type(), all.Len(), all.Len())
		for k := range all.Len() {
			list.Index(k).Set(whole(all.Index(k)))
		}
		out.Set(list)
	case reflect.Struct:
		for k := range v.NumField() {
			out.Field(k).Set(whole(v.Field(k)))
		}
	default:
		out.Set(v)
	}
	return out
}

// answers is all that is told of functions.
type answers struct {
	Lines []api.Asm
	E     api.Errno
	Sizes []int
	Es    []api.Errno
}

func answersOf(l []api.LowFunc) answers {
	var out answers
	out.Lines, out.E = frame.Lines(l)
	for _, f := range l {
		n, e := frame.Size(f)
		out.Sizes, out.Es = append(out.Sizes, n), append(out.Es, e)
	}
	return out
}

// wantApart asks whether what is handed in stays as it was, and what is handed out is new memory, and the same again.
func wantApart(t *testing.T, l []api.LowFunc) {
	t.Helper()
	given := roomy(reflect.ValueOf(l)).Interface().([]api.LowFunc)
	before := whole(reflect.ValueOf(given)).Interface()
	got := answersOf(given)
	if !reflect.DeepEqual(before, whole(reflect.ValueOf(given)).Interface()) {
		t.Fatal("what was handed in was changed")
	}
	again := answersOf(l)
	if !reflect.DeepEqual(got, again) {
		t.Fatal("it is not told again")
	}
	out := slices.Concat(parts(reflect.ValueOf(got.Lines)), parts(reflect.ValueOf(again.Lines)))
	slices.SortFunc(out, func(a, b part) int { return int(int64(a.from) - int64(b.from)) })
	for k := range out {
		if k > 0 && out[k].from < out[k-1].to {
			t.Fatal("two lists share memory")
		}
	}
	for _, s := range slices.Concat(parts(reflect.ValueOf(given)), parts(reflect.ValueOf(l))) {
		if slices.ContainsFunc(out, func(p part) bool { return p.from < s.to && s.from < p.to }) {
			t.Fatal("something of what was handed in is handed out")
		}
	}
	// What was handed out is the caller's, and what was handed in too: to change either changes nothing of the other, nor of what is told later.
	for k := range got.Lines {
		got.Lines[k] = api.Asm{Kind: -9, Label: "x"}
	}
	for k := range given {
		given[k] = api.LowFunc{}
	}
	if !reflect.DeepEqual(again, answersOf(l)) {
		t.Fatal("it is not told again, once it was changed")
	}
}

func TestMemory(t *testing.T) {
	t.Parallel()
	wantApart(t, nil)
	wantApart(t, []api.LowFunc{{}})
	wantApart(t, []api.LowFunc{starts(0, 0)})
	wantApart(t, []api.LowFunc{starts(0, 500)})
	wantApart(t, passing(regs(3, 2, 1), regs(4, 4, 7), regs(1, 2), regs(9, 8)))
	wantApart(t, chain(3, 3))
	for _, f := range unfit() {
		wantApart(t, []api.LowFunc{starts(0, 0), f})
	}
	for seed := range int64(300) {
		wantApart(t, crowd{int(seed) % 20, seed%2 == 0, 3}.all(made(seed)))
	}
	for seed := range int64(10) {
		wantApart(t, lowered(t, program(seed, 6)))
	}
}
