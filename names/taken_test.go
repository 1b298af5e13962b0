package names

import (
	"testing"

	"ferrule/api"
)

var own = []string{"print", "read", "unbox", "replace", "Box", "bool", "i8", "i16", "i32", "u8", "u16", "u32"}

// near tells names that are like one but for a letter: one left out, one more, one that is another, one that is greater or smaller.
func near(name string) []string {
	var list []string
	for k := range len(name) + 1 {
		for _, c := range "aix8_0" {
			list = append(list, name[:k]+string(c)+name[k:])
			if k < len(name) && name[k] != byte(c) {
				list = append(list, name[:k]+string(c)+name[k+1:])
			}
		}
		if k < len(name) {
			list = append(list, name[:k]+name[k+1:])
			if c := name[k] ^ ' '; c|' ' >= 'a' && c|' ' <= 'z' {
				list = append(list, name[:k]+string(rune(c))+name[k+1:])
			}
		}
	}
	return list
}

func isOwn(name string) bool {
	for _, x := range own {
		if x == name {
			return true
		}
	}
	return false
}

func TestTaken(t *testing.T) {
	for _, name := range own {
		if !Taken(name) {
			t.Errorf("%s is not taken", name)
		}
		for _, other := range near(name) {
			if Taken(other) != isOwn(other) {
				t.Errorf("%s: %v", other, Taken(other))
			}
		}
	}
	for _, name := range []string{
		"", " ", "main", "new", "Box::new", "unit", "()", "fn", "let", "true", "false", "struct", "self", "str", "String", "Vec", "u64", "i64", "i128", "usize", "isize",
		"f32", "char", "print!", "println", "write", "box", "BOX", "Bool", "PRINT", "print ", " print", "print\x00", "printread", "u8u8", "i 8", "\xff", "ü8", "_", "__",
	} {
		if Taken(name) {
			t.Errorf("%q is taken", name)
		}
	}
}

// TestOwnNamesOfItems: no item has one, whatever its kind; a param, a field, a variant may.
func TestOwnNamesOfItems(t *testing.T) {
	kinds := []api.Item{function("", 30, unit), structure("", 30, u8), enum("", 30, nil), constant("", 30, u8, 1), {Kind: 99, At: 30}, {At: 30}}
	for _, name := range own {
		for _, it := range kinds {
			it.Name = name
			good := []api.Item{mainAt(1), structure("S", 10, u8), constant("K", 20, u8, 1)}
			want(t, []api.Item{it, good[0], good[1], good[2]}, 30, api.ErrTwice)
			want(t, []api.Item{good[0], good[1], it, good[2]}, 30, api.ErrTwice)
			want(t, []api.Item{good[0], good[1], good[2], it}, 30, api.ErrTwice)
		}
		wantText(t, "fn main() {} struct S { "+name+": u8 } enum E { "+name+", A(S) } fn f("+name+": &S, mut main: u8, f: u8) {}", api.OK)
		for _, other := range near(name) {
			if other == "" || isOwn(other) || other[0] >= '0' && other[0] <= '9' {
				continue
			}
			for _, it := range kinds[:4] {
				it.Name = other
				want(t, []api.Item{mainAt(1), it}, 0, api.OK)
			}
		}
	}
}
