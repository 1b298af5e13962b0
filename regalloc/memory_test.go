package regalloc_test

import (
	"reflect"
	"slices"
	"testing"

	"ferrule/api"
	"ferrule/regalloc"
)

// room is the memory of a list, spare room too.
type room struct{ from, to uintptr }

// rooms tells those of all lists in a value, with what lies in their spare room.
func rooms(v reflect.Value) []room {
	var all []room
	switch v.Kind() {
	case reflect.Slice:
		if size := v.Type().Elem().Size() * uintptr(v.Cap()); size > 0 {
			all = append(all, room{v.Pointer(), v.Pointer() + size})
		}
		for k := range v.Cap() {
			all = append(all, rooms(v.Slice(0, v.Cap()).Index(k))...)
		}
	case reflect.Struct:
		for k := range v.NumField() {
			all = append(all, rooms(v.Field(k))...)
		}
	}
	return all
}

// roomy is a value in new memory, whose lists have spare room with something in it.
func roomy(v reflect.Value) reflect.Value {
	out := reflect.New(v.Type()).Elem()
	switch v.Kind() {
	case reflect.Slice:
		list := reflect.MakeSlice(v.Type(), v.Len()+2, v.Len()+2)
		for k := range v.Len() {
			list.Index(k).Set(roomy(v.Index(k)))
		}
		for k := v.Len(); k < v.Len()+2; k++ {
			mark(list.Index(k))
		}
		out.Set(list.Slice(0, v.Len()))
	case reflect.Struct:
		for k := range v.NumField() {
			out.Field(k).Set(roomy(v.Field(k)))
		}
	default:
		out.Set(v)
	}
	return out
}

func mark(v reflect.Value) {
	switch v.Kind() {
	case reflect.Int:
		v.SetInt(77)
	case reflect.String:
		v.SetString("spare")
	case reflect.Struct:
		for k := range v.NumField() {
			mark(v.Field(k))
		}
	}
}

// whole is a value with the spare room of its lists as parts of them, in new memory.
func whole(v reflect.Value) reflect.Value {
	out := reflect.New(v.Type()).Elem()
	switch v.Kind() {
	case reflect.Slice:
		if v.IsNil() {
			return out
		}
		all := v.Slice(0, v.Cap())
		list := reflect.MakeSlice(v.Type(), all.Len(), all.Len())
		for k := range all.Len() {
			list.Index(k).Set(whole(all.Index(k)))
		}
		out.Set(list)
	case reflect.Struct:
		for k := range v.NumField() {
			out.Field(k).Set(whole(v.Field(k)))
		}
	default:
		out.Set(v)
	}
	return out
}

// answers is all that is told of a function, and of the machine's registers.
type answers struct {
	At         []int
	Slots      int
	E          api.Errno
	Kept, Lost []int
}

func answersOf(f api.LowFunc) answers {
	at, slots, e := regalloc.Assign(f)
	return answers{at, slots, e, regalloc.Kept(), regalloc.Lost()}
}

// wantApart asks whether what is handed in stays as it was, and what is handed out has memory of its own, each list, and is the same again.
func wantApart(t *testing.T, f api.LowFunc) {
	t.Helper()
	given := roomy(reflect.ValueOf(f)).Interface().(api.LowFunc)
	before := whole(reflect.ValueOf(given)).Interface()
	got := answersOf(given)
	if !reflect.DeepEqual(before, whole(reflect.ValueOf(given)).Interface()) {
		t.Fatal("what was handed in was changed")
	}
	for range 3 {
		if !reflect.DeepEqual(got, answersOf(f)) {
			t.Fatal("it is not told again")
		}
	}
	again := answersOf(f)
	all := slices.Concat(rooms(reflect.ValueOf(got)), rooms(reflect.ValueOf(again)))
	slices.SortFunc(all, func(a, b room) int { return int(int64(a.from) - int64(b.from)) })
	for k := range all {
		if k > 0 && all[k].from < all[k-1].to {
			t.Fatal("two lists share memory")
		}
	}
	for _, s := range rooms(reflect.ValueOf(given)) {
		if slices.ContainsFunc(all, func(r room) bool { return r.from < s.to && s.from < r.to }) {
			t.Fatal("something of what was handed in is handed out")
		}
	}
	// What was handed out is the caller's: to change it changes nothing that is told later.
	for _, list := range [][]int{got.At, got.Kept, got.Lost} {
		for k := range list[:cap(list)] {
			list[:cap(list)][k] = -9
		}
	}
	if !reflect.DeepEqual(again, answersOf(f)) {
		t.Fatal("it is not told again, once it was changed")
	}
}

func TestMemory(t *testing.T) {
	wantApart(t, api.LowFunc{})
	wantApart(t, sample())
	wantApart(t, window(20, 90, 6, false))
	wantApart(t, fn(0, nil, 0, block(answer())))
	wrong := sample()
	wrong.Blocks[3].List[2].Args[7] = 9
	wantApart(t, wrong)
	for seed := range int64(400) {
		for _, f := range made(seed) {
			wantApart(t, f)
		}
		wantApart(t, lined(seed, 60, 18, 2))
	}
	for seed := range int64(5) {
		for _, f := range lowered(t, program(seed, 6)) {
			wantApart(t, f)
		}
	}
}
