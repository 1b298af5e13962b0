package build_test

import (
	"fmt"
	"strconv"
	"testing"

	"ferrule/api"
	"ferrule/mir"
	"ferrule/model"
	"ferrule/num"
)

// P13.2: what signs, casts and comparisons make of words.

var kinds = map[string]int{"i8": api.TyI8, "i16": api.TyI16, "i32": api.TyI32, "u8": api.TyU8, "u16": api.TyU16, "u32": api.TyU32}

// edges are numbers of a type: its ends, and others at which something changes.
func edges(kind int) []int {
	least, most := num.Range(kind)
	var out []int
	for _, n := range []int{least, least + 1, -7, -2, -1, 0, 1, 2, 3, 7, 8, 15, 16, 31, 32, 181, 46341, 65536, most - 1, most} {
		if least <= n && n <= most {
			out = append(out, n)
		}
	}
	return out
}

// written is a number as a literal of a type.
func written(n int, typ string) string {
	if n < 0 {
		return "(" + strconv.Itoa(n) + typ + ")"
	}
	return strconv.Itoa(n) + typ
}

// wantNumber asks what is printed, or whether it panics, of a program in both forms.
func wantNumber(t *testing.T, l []api.Item, list []api.Mir, input []int, n, fault int, what string) {
	t.Helper()
	want := api.Outcome{Kind: api.OutExit, Code: 101}
	if fault == num.Fine {
		want = api.Outcome{Kind: api.OutExit, Print: []int{n}}
	}
	got, _ := mir.Run(l, list, input, 1000)
	if meant, _ := model.Run(l, input, 1000); !alike(got, want) || !alike(meant, want) {
		t.Fatalf("%s with %v: %v, the model %v, not %v", what, input, got, meant, want)
	}
}

// wantSigns asks what a sign makes of all pairs of edges of two types, of which each is read, or written there.
func wantSigns(t *testing.T, first, second, sign string, means func(a, c int) (int, int)) {
	t.Helper()
	ask := func(a, c string, input []int, n, fault int) {
		t.Helper()
		text := fmt.Sprintf("fn main() { let a = read() as %s; let c = read() as %s; print(%s %s %s); }", first, second, a, sign, c)
		l := typed(t, text)
		wantNumber(t, l, built(t, l), input, n, fault, text)
	}
	text := fmt.Sprintf("fn main() { let a = read() as %s; let c = read() as %s; print(a %s c); }", first, second, sign)
	l := typed(t, text)
	list := built(t, l)
	for _, a := range edges(kinds[first]) {
		for _, c := range edges(kinds[second]) {
			n, fault := means(a, c)
			wantNumber(t, l, list, []int{a, c}, n, fault, text)
			ask("a", written(c, second), []int{a, c}, n, fault)
			ask(written(a, first), "c", []int{a, c}, n, fault)
			ask(written(a, first), written(c, second), []int{a, c}, n, fault)
		}
	}
}

func TestSums(t *testing.T) {
	for typ, kind := range kinds {
		for _, sign := range []string{"+", "-", "*", "/", "%", "&", "|", "^"} {
			wantSigns(t, typ, typ, sign, func(a, c int) (int, int) { return num.Do(sign, kind, a, c) })
		}
	}
}

// Shifts are by a number of any type.
func TestShifts(t *testing.T) {
	for typ, kind := range kinds {
		for _, by := range []string{"i8", "u8", "i32", "u32"} {
			for _, sign := range []string{"<<", ">>"} {
				wantSigns(t, typ, by, sign, func(a, c int) (int, int) { return num.Do(sign, kind, a, c) })
			}
		}
		// Each number of bits, and one beyond each end.
		for _, sign := range []string{"<<", ">>"} {
			text := "fn main() { let a = read() as " + typ + "; print(a " + sign + " read()); }"
			l := typed(t, text)
			list := built(t, l)
			for by := -2; by < 35; by++ {
				for _, a := range edges(kind) {
					n, fault := num.Do(sign, kind, a, by)
					wantNumber(t, l, list, []int{a, by}, n, fault, text)
				}
			}
		}
	}
}

func TestComparisons(t *testing.T) {
	for typ := range kinds {
		for _, sign := range []string{"==", "!=", "<", "<=", ">", ">="} {
			wantSigns(t, typ, typ, sign, func(a, c int) (int, int) {
				holds, _ := num.Holds(sign, a, c)
				return map[bool]int{true: 1}[holds], num.Fine
			})
			// As a condition, and turned.
			for _, form := range []string{"if a %s c { print(1); } else { print(0); }", "if !(a %s c) { print(0); } else { print(1); }", "print(if a %s c { 1 } else { 0 });", "while a %s c { print(1); return; } print(0);", "let b = a %s c; print(b);", "let mut n = 0; if a %s c { n = 1; } print(n);", "print(a %s c && true);", "print(match a %s c { true => 1, false => 0 });"} {
				text := "fn main() { let a = read() as " + typ + "; let c = read() as " + typ + "; " + fmt.Sprintf(form, sign) + " }"
				l := typed(t, text)
				list := built(t, l)
				for _, a := range edges(kinds[typ]) {
					for _, c := range edges(kinds[typ]) {
						holds, _ := num.Holds(sign, a, c)
						wantNumber(t, l, list, []int{a, c}, map[bool]int{true: 1}[holds], num.Fine, text)
					}
				}
			}
		}
	}
}

func TestOneSign(t *testing.T) {
	for typ, kind := range kinds {
		_, signed := num.Bits(kind)
		for _, n := range edges(kind) {
			turned := num.Wrap(kind, -1-n)
			for _, of := range []string{"a", written(n, typ)} {
				l := typed(t, "fn main() { let a = read() as "+typ+"; print(!"+of+"); }")
				wantNumber(t, l, built(t, l), []int{n}, turned, num.Fine, "! of "+of+" as "+typ)
				if !signed || of != "a" {
					continue
				}
				negative, fault := num.Do("-", kind, 0, n)
				for _, form := range []string{"-a", "0 - a", "-{ a }"} {
					l = typed(t, "fn main() { let a = read() as "+typ+"; print("+form+"); }")
					wantNumber(t, l, built(t, l), []int{n}, negative, fault, "- of "+typ)
				}
			}
		}
	}
}

func TestCasts(t *testing.T) {
	for from, of := range kinds {
		for to, kind := range kinds {
			text := "fn main() { let a = read() as " + from + "; print(a as " + to + "); }"
			l := typed(t, text)
			list := built(t, l)
			for _, n := range edges(of) {
				wantNumber(t, l, list, []int{n}, num.Wrap(kind, n), num.Fine, text)
				known := typed(t, "fn main() { print("+written(n, from)+" as "+to+"); }")
				wantNumber(t, known, built(t, known), nil, num.Wrap(kind, n), num.Fine, text)
			}
		}
		l := typed(t, "fn main() { let a = read() == 1; print(a as "+from+"); }")
		wantNumber(t, l, built(t, l), []int{1}, 1, num.Fine, "true as "+from)
		wantNumber(t, l, built(t, l), []int{2}, 0, num.Fine, "false as "+from)
	}
}

func TestBools(t *testing.T) {
	means := map[string]func(a, c int) int{"&": func(a, c int) int { return a & c }, "|": func(a, c int) int { return a | c }, "^": func(a, c int) int { return a ^ c }, "==": func(a, c int) int { return 1 - (a ^ c) }, "!=": func(a, c int) int { return a ^ c }, "&&": func(a, c int) int { return a & c }, "||": func(a, c int) int { return a | c }}
	for sign, of := range means {
		for _, form := range []string{"print(a %s c);", "if a %s c { print(1); } else { print(0); }", "print(!(a %s c) == false);", "let mut b = a %s c; b = b & true; print(b);", "print(if !(a %s c) { 0 } else { 1 });", "print(match a %s c { false => 0, _ => 1 });"} {
			l := typed(t, "fn main() { let a = read() == 1; let c = read() == 1; "+fmt.Sprintf(form, sign)+" }")
			list := built(t, l)
			for k := range 4 {
				a, c := k/2, k%2
				wantNumber(t, l, list, []int{a, c}, of(a, c), num.Fine, form+" of "+sign)
			}
		}
	}
	for _, b := range []int{0, 1} {
		l := typed(t, "fn main() { let a = read() == 1; print(!a); }")
		wantNumber(t, l, built(t, l), []int{b}, 1-b, num.Fine, "!")
	}
}

// && and || run the second one only if the first one does not decide; the others run both, in order.
func TestOrderOfSigns(t *testing.T) {
	wantPrint(t, "print(ask(1, true) && ask(2, false)); print(ask(3, false) && ask(4, true)); print(ask(5, true) || ask(6, false)); print(ask(7, false) || ask(8, true)); print(ask(9, false) & ask(10, true));", 1, 2, 0, 3, 0, 5, 1, 7, 8, 1, 9, 10, 0)
	wantPrint(t, "if ask(1, true) && (ask(2, false) || ask(3, true)) && !ask(4, false) { print(5); } if !(ask(6, true) && ask(7, true)) || ask(8, false) { print(9); } else { print(10); } while ask(11, false) || ask(12, false) { print(13); }", 1, 2, 3, 4, 5, 6, 7, 8, 10, 11, 12)
	wantPrint(t, "print(say(1) + say(2) * say(3)); print(say(5) < say(4)); print(say(6) << say(1));", 1, 2, 3, 7, 5, 4, 0, 6, 1, 12)
	// A variable's word is that of the time when it was asked for.
	wantPrint(t, "let mut x = 1; print(x + { x = 10; x }); print(x - { x = 3; 1 }); print(x < { x = 0; 2 }); print({ x = 5; x } * { x = 7; x }); print(x); print(x == { x = 1; 7 }); print(x << { x = 3; x }); let mut b = true; print(b & { b = false; true }); print(b);", 11, 9, 0, 35, 7, 1, 8, 1, 0)
	wantPrint(t, "let mut x = 1; print(x + { set(&mut x, 10); x }); print(x as i32 + { set(&mut x, 3); 1 }); let mut a = [5, 6]; print(a[0] + { a[0] = 7; a[0] }); let mut p = point(1, 2); print(p.a + { p = point(8, 9); p.a }); let mut o = O { x: 3 }; print(o.x + { o.x = 4; o.x }); print(o.x + { o = O { x: 5 }; o.x });", 11, 11, 12, 9, 7, 9)
	wantPanic(t, "print(say(1) / { say(0) } + say(3));", 1, 0)
	wantPanic(t, "ask(1, true) && panics() == 1;", 1)
	wantPrint(t, "ask(1, false) && panics() == 1; ask(2, true) || panics() == 1;", 1, 2)
}
