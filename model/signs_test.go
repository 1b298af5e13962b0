package model

import (
	"math"
	"strconv"
	"testing"

	"ferrule/api"
)

// P10.1: ExInt, ExBool, ExUnit, ExNeg, ExNot, ExBin, ExCast.

func TestNumbersAndBools(t *testing.T) {
	wantPrint(t, "print(0); print(42); print(-42); print(2147483647); print(-2147483648); print(4294967295u32); print(255u8); print(-128i8); print(65535u16); print(-32768i16); print(true); print(false); print(K); print(LEAST); ();", 0, 42, -42, math.MaxInt32, math.MinInt32, math.MaxUint32, 255, -128, 65535, -32768, 1, 0, 7, -128)
}

func TestNegative(t *testing.T) {
	wantPrint(t, "let x = 5; print(-x); print(-(-x)); let z = 0; print(-z); let m = 127i8; print(-m); let n = -127i8; print(-n); let o = -2147483647; print(-o);", -5, 5, 0, -127, 127, math.MaxInt32)
	wantPanic(t, "let m = -128i8; print(1); print(-m);", 1)
	wantPanic(t, "let m = -32768i16; print(-m);")
	wantPanic(t, "let m = -2147483648; print(-m);")
	wantPanic(t, "print(-LEAST);")
}

func TestNot(t *testing.T) {
	wantPrint(t, "print(!true); print(!false); print(!!true); print(!0); print(!-1); print(!5i8); print(!127i8); print(!-128i8); print(!0u8); print(!255u8); print(!1u16); print(!0u32); print(!4294967295u32); print(!7u32);", 0, 1, 1, -1, 0, -6, -128, 127, 255, 0, 65534, math.MaxUint32, 0, math.MaxUint32-7)
}

// Each operation at the ends of its type: what faults, and the same one step nearer.
func TestFaultsOfTypes(t *testing.T) {
	for _, c := range []struct {
		typ         string
		least, most int
	}{{"i8", -128, 127}, {"i16", -32768, 32767}, {"i32", math.MinInt32, math.MaxInt32}, {"u8", 0, 255}, {"u16", 0, 65535}, {"u32", 0, math.MaxUint32}} {
		bits := map[int]string{127: "8", 255: "8", 32767: "16", 65535: "16", math.MaxInt32: "32", math.MaxUint32: "32"}[c.most]
		wide, _ := strconv.Atoi(bits)
		let := "let least: " + c.typ + " = " + strconv.Itoa(c.least) + "; let most: " + c.typ + " = " + strconv.Itoa(c.most) + "; let one: " + c.typ + " = 1; let zero: " + c.typ + " = 0; let two: " + c.typ + " = 2; print(3); "
		fine := func(tree string, n int) { t.Helper(); wantPrint(t, let+"print("+tree+");", 3, n) }
		panics := func(trees ...string) {
			t.Helper()
			for _, tree := range trees {
				wantPanic(t, let+"print("+tree+"); print(4);", 3)
			}
		}
		panics("most + one", "least - one", "most * two", "one / zero", "one % zero", "zero / zero", "zero % zero", "one << "+bits, "one >> "+bits, "zero << "+bits, "one << -1", "one >> -1", "one << 4294967295u32", "one >> 255u8", "one << -128i8")
		fine("most + zero", c.most)
		fine("most - one + one", c.most)
		fine("least - zero", c.least)
		fine("least + one - one", c.least)
		fine("most / two * two", c.most-1)
		fine("most / one", c.most)
		fine("most % one", 0)
		fine("most % two", 1)
		fine("most ^ most", 0)
		fine("most & two", 2)
		fine("one | two", 3)
		fine("one >> "+strconv.Itoa(wide-1), 0)
		fine("one << 0", 1)
		fine("most >> 1u8", c.most/2)
		if c.least < 0 {
			panics("least / -one", "least % -one", "least * -one", "-least")
			fine("-most", -c.most)
			fine("least / two", c.least/2)
			fine("-most / -one", c.most)
			fine("least % two", 0)
			fine("-most % two", -1)
			fine("one << "+strconv.Itoa(wide-1), c.least)
			fine("least >> "+strconv.Itoa(wide-1), -1)
			fine("most << 1", -2)
			fine("!most", c.least)
			fine("least | most", -1)
		} else {
			panics("zero - one", "one - two")
			fine("one << "+strconv.Itoa(wide-1), c.most/2+1)
			fine("most >> "+strconv.Itoa(wide-1), 1)
			fine("most << 1", c.most-1)
			fine("!most", 0)
		}
	}
}

// The type that counts is the first kid's: that of a shift's second one is any.
func TestTypeOfTheFirstKid(t *testing.T) {
	wantPrint(t, "print(1u8 << 7i32); print(1i8 << 7u32); print(1u32 << 31u8); print(200u8 - 100); print(1 << 8);", 128, -128, 1<<31, 100, 256)
	wantPanic(t, "print(1u8 << 8i32);")
	wantPanic(t, "print(1i16 >> 16u32);")
	wantPanic(t, "print(255u8 + 1);")
	wantPrint(t, "print(255u16 + 1); print(255 + 1); print(255u32 + 1);", 256, 256, 256)
}

func TestComparisons(t *testing.T) {
	wantPrint(t, "print(1 == 1); print(1 == 2); print(1 != 1); print(1 != 2); print(1 < 2); print(2 < 2); print(2 <= 2); print(3 <= 2); print(3 > 2); print(2 > 2); print(2 >= 2); print(1 >= 2); print(-1 < 1); print(4294967295u32 > 1); print(true == true); print(true == false); print(true != false); print(-128i8 <= 127);", 1, 0, 0, 1, 1, 0, 1, 0, 1, 0, 1, 0, 1, 1, 1, 0, 1, 1)
}

func TestBoolsBitByBit(t *testing.T) {
	for a := range 2 {
		for b := range 2 {
			x, y := []string{"no()", "yes()"}[a], []string{"no()", "yes()"}[b]
			wantPrint(t, "print("+x+" & "+y+"); print("+x+" | "+y+"); print("+x+" ^ "+y+"); print("+x+" && "+y+"); print("+x+" || "+y+");", a&b, a|b, a^b, a&b, a|b)
		}
	}
}

// The second kid is run only if the first one does not decide; that of & | ^ always.
func TestLogicalSigns(t *testing.T) {
	wantPrint(t, "print(ask(1, false) && ask(2, true)); print(ask(3, true) && ask(4, true)); print(ask(5, true) && ask(6, false));", 1, 0, 3, 4, 1, 5, 6, 0)
	wantPrint(t, "print(ask(1, true) || ask(2, true)); print(ask(3, false) || ask(4, true)); print(ask(5, false) || ask(6, false));", 1, 1, 3, 4, 1, 5, 6, 0)
	wantPrint(t, "print(ask(1, false) & ask(2, true)); print(ask(3, true) | ask(4, true));", 1, 2, 0, 3, 4, 1)
	wantPrint(t, "print(no() && panics() == 1); print(yes() || panics() == 1); print(no() && no() && panics() == 1); print(yes() || no() && panics() == 1);", 0, 1, 0, 1)
	wantPanic(t, "print(yes() && panics() == 1);")
	wantPanic(t, "print(no() || panics() == 1);")
	wantPanic(t, "print(no() & (panics() == 1));")
}

func TestCasts(t *testing.T) {
	wantPrint(t, "let x = 300; print(x as u8); print(x as i8); let y = -1; print(y as u8); print(y as u16); print(y as u32); print(y as i8); let z = 200u8; print(z as i8); print(z as i32); let b = true; print(b as i32); print(false as u8); print(4294967295u32 as i32); print(4294967295u32 as i16); print(-129 as i8 as i32); print(65536 as u16);",
		44, 44, 255, 65535, math.MaxUint32, -1, -56, 200, 1, 0, -1, -1, 127, 0)
}

// Kids are run in order, ahead of what is made of them.
func TestOrderOfKids(t *testing.T) {
	wantPrint(t, "print(say(1) + say(2) * say(3)); print(say(5) << say(1)); print(say(1) < say(2)); print(1 == say(3)); print(-say(4)); print(!say(4)); print(say(6) as u8);", 1, 2, 3, 7, 5, 1, 10, 1, 2, 1, 3, 0, 4, -4, 4, -5, 6, 6)
	wantPanic(t, "print(say(2147483647) + say(1) + say(9));", 2147483647, 1)
	wantPanic(t, "print(say(1) / say(0) + say(9));", 1, 0)
}

func TestRead(t *testing.T) {
	text := inMain("print(read()); print(read()); print(read()); print(read()); print(read());")
	wantRun(t, text, nil, api.OutExit, 0, 0, 0, 0, 0, 0)
	wantRun(t, text, []int{5}, api.OutExit, 0, 5, 0, 0, 0, 0)
	wantRun(t, text, []int{1, 2, 3, 4, 5, 6, 7}, api.OutExit, 0, 1, 2, 3, 4, 5)
	wantRun(t, text, []int{1 << 31, -1<<31 - 1, 1<<32 + 9, math.MaxInt, math.MinInt}, api.OutExit, 0, math.MinInt32, math.MaxInt32, 9, -1, 0)
	wantRun(t, text, []int{math.MaxInt32, math.MinInt32, 0, -1}, api.OutExit, 0, math.MaxInt32, math.MinInt32, 0, -1, 0)
	wantRun(t, inMain("print(read() - read()); if read() == 3 { print(read()); }"), []int{7, 2, 3, 4}, api.OutExit, 0, 5, 4)
}
