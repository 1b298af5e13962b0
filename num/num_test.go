package num

import (
	"math"
	"math/big"
	"slices"
	"testing"

	"ferrule/api"
)

// The integer types as the document has them, written out anew so that the package's own table is not its judge.
var ints = []struct {
	name        string
	kind, bits  int
	signed      bool
	least, most int
}{
	{"i8", api.TyI8, 8, true, -128, 127},
	{"i16", api.TyI16, 16, true, -32768, 32767},
	{"i32", api.TyI32, 32, true, -2147483648, 2147483647},
	{"u8", api.TyU8, 8, false, 0, 255},
	{"u16", api.TyU16, 16, false, 0, 65535},
	{"u32", api.TyU32, 32, false, 0, 4294967295},
}

// Kinds that are no integer types: the other ones of api, one beyond both ends, and the ends of int.
var others = []int{
	math.MinInt, math.MinInt + api.TyI8, -api.TyI8, -1, 0,
	api.TyUnit, api.TyBool, api.TyNamed, api.TyArray, api.TyBox, api.TyRef, api.TyMut, api.TyNever,
	api.TyNever + 1, 256 + api.TyI8, math.MaxInt,
}

var signs = []string{"+", "-", "*", "/", "%", "&", "|", "^", "<<", ">>"}

// Texts that are no sign of Do; those of comparisons are among them.
var noSigns = []string{
	"", " ", "+ ", " +", "++", "**", "//", "&&", "||", "!", "~", "<", ">", "<<<", ">>>", "<<=", "+=",
	"=", "==", "!=", "<=", ">=", "add", "\x00", "\xff", "×",
}

// P1.1

func TestIntTellsIntegerTypes(t *testing.T) {
	for _, c := range ints {
		if !Int(c.kind) {
			t.Errorf("Int(%s) = false", c.name)
		}
	}
	for _, kind := range others {
		if Int(kind) {
			t.Errorf("Int(%d) = true", kind)
		}
	}
}

func TestBitsTellsBitsAndSign(t *testing.T) {
	for _, c := range ints {
		if bits, signed := Bits(c.kind); bits != c.bits || signed != c.signed {
			t.Errorf("Bits(%s) = %d, %v", c.name, bits, signed)
		}
	}
	for _, kind := range others {
		if bits, signed := Bits(kind); bits != 0 || signed {
			t.Errorf("Bits(%d) = %d, %v", kind, bits, signed)
		}
	}
}

func TestRangeTellsBothEnds(t *testing.T) {
	for _, c := range ints {
		if least, most := Range(c.kind); least != c.least || most != c.most {
			t.Errorf("Range(%s) = %d, %d", c.name, least, most)
		}
	}
	for _, kind := range others {
		if least, most := Range(kind); least != 0 || most != 0 {
			t.Errorf("Range(%d) = %d, %d", kind, least, most)
		}
	}
}

func TestWrapByExample(t *testing.T) {
	for _, c := range []struct{ kind, v, want int }{
		{api.TyU16, -1, 65535},
		{api.TyI8, 127, 127}, {api.TyI8, 128, -128}, {api.TyI8, -128, -128}, {api.TyI8, -129, 127},
		{api.TyI8, 255, -1}, {api.TyI8, 256, 0}, {api.TyI8, 1000, -24},
		{api.TyI16, 32768, -32768}, {api.TyI16, -32769, 32767},
		{api.TyI32, 1 << 31, -1 << 31}, {api.TyI32, -1<<31 - 1, 1<<31 - 1},
		{api.TyU8, 255, 255}, {api.TyU8, 256, 0}, {api.TyU8, -1, 255}, {api.TyU8, -256, 0}, {api.TyU8, -257, 255},
		{api.TyU16, 65536, 0}, {api.TyU32, 1 << 32, 0}, {api.TyU32, -1, 1<<32 - 1},
		{api.TyI32, math.MaxInt, -1}, {api.TyI32, math.MinInt, 0},
		{api.TyU32, math.MaxInt, 1<<32 - 1}, {api.TyU8, math.MinInt, 0},
	} {
		if got := Wrap(c.kind, c.v); got != c.want {
			t.Errorf("Wrap(%d, %d) = %d, not %d", c.kind, c.v, got, c.want)
		}
	}
}

func TestWrapIsTheSameModuloTwoToTheBits(t *testing.T) {
	for _, c := range ints {
		for _, v := range wide(c.least, c.most) {
			got := Wrap(c.kind, v)
			if got < c.least || got > c.most {
				t.Fatalf("Wrap(%s, %d) = %d is not in the range", c.name, v, got)
			}
			apart := new(big.Int).Sub(big.NewInt(int64(v)), big.NewInt(int64(got)))
			if new(big.Int).Mod(apart, power(c.bits)).Sign() != 0 {
				t.Fatalf("Wrap(%s, %d) = %d is another number modulo 2^%d", c.name, v, got, c.bits)
			}
		}
	}
}

func TestWrapOfOtherKindsIsNothing(t *testing.T) {
	for _, kind := range others {
		for _, v := range []int{math.MinInt, -1, 0, 1, 255, math.MaxInt} {
			if got := Wrap(kind, v); got != 0 {
				t.Errorf("Wrap(%d, %d) = %d", kind, v, got)
			}
		}
	}
}

// P1.2

func TestDoByExample(t *testing.T) {
	const (
		least32 = -1 << 31
		most32  = 1<<31 - 1
		mostU32 = 1<<32 - 1
	)
	for _, c := range []struct {
		sign                 string
		kind, a, b, v, fault int
	}{
		{"+", api.TyU8, 200, 55, 255, Fine}, {"+", api.TyU8, 200, 56, 0, Overflow},
		{"+", api.TyI8, -128, -1, 0, Overflow}, {"+", api.TyI8, 127, 1, 0, Overflow}, {"+", api.TyI8, 127, -128, -1, Fine},
		{"+", api.TyU32, mostU32, 1, 0, Overflow}, {"+", api.TyI32, most32, 1, 0, Overflow},
		{"-", api.TyU8, 0, 1, 0, Overflow}, {"-", api.TyU8, 7, 7, 0, Fine}, {"-", api.TyI16, -32768, 1, 0, Overflow},
		{"-", api.TyI32, 0, least32, 0, Overflow}, {"-", api.TyI32, -1, least32, most32, Fine},
		{"*", api.TyU16, 300, 200, 60000, Fine}, {"*", api.TyU16, 256, 256, 0, Overflow},
		{"*", api.TyU32, 65537, 65535, mostU32, Fine}, {"*", api.TyU32, 65536, 65536, 0, Overflow},
		{"*", api.TyU32, mostU32, mostU32, 0, Overflow}, {"*", api.TyU32, 1 << 31, 1 << 31, 0, Overflow},
		{"*", api.TyU32, mostU32, 1, mostU32, Fine}, {"*", api.TyU32, mostU32, 0, 0, Fine},
		{"*", api.TyI8, -128, -1, 0, Overflow}, {"*", api.TyI8, -128, 1, -128, Fine}, {"*", api.TyI8, -1, 127, -127, Fine},
		{"*", api.TyI32, least32, least32, 0, Overflow}, {"*", api.TyI32, least32, most32, 0, Overflow},
		{"/", api.TyI8, -7, 2, -3, Fine}, {"/", api.TyI8, 7, -2, -3, Fine}, {"/", api.TyI8, -7, -2, 3, Fine},
		{"/", api.TyI8, -128, -1, 0, Overflow}, {"/", api.TyI16, -32768, -1, 0, Overflow}, {"/", api.TyI32, least32, -1, 0, Overflow},
		{"/", api.TyI8, -127, -1, 127, Fine}, {"/", api.TyU32, 7, 0, 0, Divides}, {"/", api.TyI8, -128, 0, 0, Divides}, {"/", api.TyI8, 0, 0, 0, Divides},
		{"%", api.TyI8, -7, 2, -1, Fine}, {"%", api.TyI8, 7, -2, 1, Fine}, {"%", api.TyI8, -7, -2, -1, Fine},
		{"%", api.TyI8, -128, -1, 0, Overflow}, {"%", api.TyI16, -32768, -1, 0, Overflow}, {"%", api.TyI32, least32, -1, 0, Overflow},
		{"%", api.TyI8, -127, -1, 0, Fine}, {"%", api.TyU8, 7, 0, 0, Divides}, {"%", api.TyI32, least32, 0, 0, Divides},
		{"&", api.TyI8, -2, 7, 6, Fine}, {"|", api.TyI8, -128, 1, -127, Fine}, {"^", api.TyI8, -1, 127, -128, Fine},
		{"&", api.TyU32, mostU32, 1 << 31, 1 << 31, Fine}, {"|", api.TyU8, 240, 15, 255, Fine}, {"^", api.TyU16, 65535, 1, 65534, Fine},
		{"<<", api.TyI8, 64, 1, -128, Fine}, {"<<", api.TyI8, -128, 1, 0, Fine}, {"<<", api.TyI8, 5, 0, 5, Fine},
		{"<<", api.TyU8, 255, 7, 128, Fine}, {"<<", api.TyU32, mostU32, 31, 1 << 31, Fine}, {"<<", api.TyI32, least32, 31, 0, Fine},
		{">>", api.TyI16, -3, 1, -2, Fine}, {">>", api.TyI8, -1, 7, -1, Fine}, {">>", api.TyU8, 255, 7, 1, Fine},
		{">>", api.TyI32, least32, 31, -1, Fine}, {">>", api.TyU32, mostU32, 31, 1, Fine}, {">>", api.TyU32, 9, 0, 9, Fine},
	} {
		if v, fault := Do(c.sign, c.kind, c.a, c.b); v != c.v || fault != c.fault {
			t.Errorf("Do(%s, %d, %d, %d) = %d, %d, not %d, %d", c.sign, c.kind, c.a, c.b, v, fault, c.v, c.fault)
		}
	}
}

func TestDoShiftsByLessThanItsBits(t *testing.T) {
	for _, c := range ints {
		for _, by := range []int{math.MinInt, -c.bits, -1, 0, c.bits - 1, c.bits, c.bits + 1, 64, math.MaxInt} {
			want := Overflow
			if by >= 0 && by < c.bits {
				want = Fine
			}
			for _, sign := range []string{"<<", ">>"} {
				for _, a := range []int{c.least, 0, 1, c.most} {
					v, fault := Do(sign, c.kind, a, by)
					if fault != want || fault != Fine && v != 0 {
						t.Errorf("Do(%s, %s, %d, %d) = %d, %d", sign, c.name, a, by, v, fault)
					}
				}
			}
		}
	}
}

func TestDoRefusesWhatIsNoOperation(t *testing.T) {
	refused := func(sign string, kind, a, b int) {
		t.Helper()
		if v, fault := Do(sign, kind, a, b); v != 0 || fault != NoSign {
			t.Errorf("Do(%q, %d, %d, %d) = %d, %d", sign, kind, a, b, v, fault)
		}
	}
	for _, sign := range signs {
		for _, kind := range others {
			refused(sign, kind, 1, 1)
			refused(sign, kind, 0, 0)
		}
		for _, c := range ints {
			for _, out := range []int{math.MinInt, c.least - 1, c.most + 1, math.MaxInt} {
				refused(sign, c.kind, out, 1)
				refused(sign, c.kind, out, 0)
				refused(sign, c.kind, out, -1)
				refused(sign, c.kind, out, c.bits)
				if sign != "<<" && sign != ">>" {
					refused(sign, c.kind, 1, out)
					refused(sign, c.kind, out, out)
				}
			}
		}
	}
	for _, sign := range noSigns {
		for _, c := range ints {
			refused(sign, c.kind, 1, 1)
			refused(sign, c.kind, c.least, 0)
		}
	}
}

func TestDoAgreesWithWholeNumbers(t *testing.T) {
	for _, c := range ints {
		numbers := inside(c.least, c.most)
		for _, sign := range signs {
			for _, a := range numbers {
				for _, b := range seconds(sign, c.bits, numbers) {
					v, fault := Do(sign, c.kind, a, b)
					wantV, wantFault := whole(sign, c.bits, c.least, c.most, a, b)
					if v != wantV || fault != wantFault {
						t.Fatalf("Do(%s, %s, %d, %d) = %d, %d, not %d, %d", sign, c.name, a, b, v, fault, wantV, wantFault)
					}
				}
			}
		}
	}
}

// P1.3

func TestHoldsByExample(t *testing.T) {
	for _, c := range []struct {
		sign                 string
		less, equal, greater bool
	}{
		{"==", false, true, false}, {"!=", true, false, true},
		{"<", true, false, false}, {"<=", true, true, false},
		{">", false, false, true}, {">=", false, true, true},
	} {
		for _, p := range []struct {
			a, b int
			want bool
		}{
			{1, 2, c.less}, {2, 2, c.equal}, {2, 1, c.greater},
			{-1, 1, c.less}, {0, 0, c.equal}, {1, -1, c.greater},
			{-2, -1, c.less}, {-1, -1, c.equal}, {-1, -2, c.greater},
			{math.MinInt, math.MaxInt, c.less}, {math.MinInt, math.MinInt, c.equal}, {math.MaxInt, math.MinInt, c.greater},
			{math.MaxInt - 1, math.MaxInt, c.less}, {math.MaxInt, math.MaxInt, c.equal}, {math.MinInt + 1, math.MinInt, c.greater},
		} {
			if is, ok := Holds(c.sign, p.a, p.b); is != p.want || !ok {
				t.Errorf("Holds(%s, %d, %d) = %v, %v", c.sign, p.a, p.b, is, ok)
			}
		}
	}
}

func TestHoldsKnowsNoOtherSign(t *testing.T) {
	wrong := append([]string{"", "=", "===", "=<", "=>", "<>", "!", "== ", " ==", "lt", "eq", "&&", "||", "≤"}, signs...)
	for _, sign := range wrong {
		for _, p := range [][2]int{{1, 2}, {2, 2}, {2, 1}} {
			if is, ok := Holds(sign, p[0], p[1]); is || ok {
				t.Errorf("Holds(%q, %d, %d) = %v, %v", sign, p[0], p[1], is, ok)
			}
		}
	}
}

// P1.4

func TestDoStaysInTheRange(t *testing.T) {
	for _, c := range ints {
		numbers := inside(c.least, c.most)
		for _, sign := range signs {
			for _, a := range numbers {
				for _, b := range seconds(sign, c.bits, numbers) {
					v, fault := Do(sign, c.kind, a, b)
					if fault == Fine && (v < c.least || v > c.most) || fault != Fine && v != 0 {
						t.Fatalf("Do(%s, %s, %d, %d) = %d, %d", sign, c.name, a, b, v, fault)
					}
				}
			}
		}
	}
}

func TestMinusUndoesPlus(t *testing.T) {
	for _, c := range ints {
		fine := 0
		numbers := inside(c.least, c.most)
		for _, a := range numbers {
			for _, b := range numbers {
				sum, fault := Do("+", c.kind, a, b)
				if fault != Fine {
					continue
				}
				fine++
				if back, fault := Do("-", c.kind, sum, b); fault != Fine || back != a {
					t.Fatalf("%s: %d + %d - %d = %d, %d", c.name, a, b, b, back, fault)
				}
			}
		}
		if fine == 0 {
			t.Errorf("%s: no sum is fine", c.name)
		}
	}
}

func TestQuotientAndRemainderComeToTheNumber(t *testing.T) {
	for _, c := range ints {
		fine := 0
		numbers := inside(c.least, c.most)
		for _, a := range numbers {
			for _, b := range numbers {
				quotient, fault := Do("/", c.kind, a, b)
				rest, restFault := Do("%", c.kind, a, b)
				if fault != restFault {
					t.Fatalf("%s: %d by %d: / tells %d, %% tells %d", c.name, a, b, fault, restFault)
				}
				if fault != Fine {
					continue
				}
				fine++
				back, productFault := Do("*", c.kind, quotient, b)
				back, sumFault := Do("+", c.kind, back, rest)
				if back != a || productFault != Fine || sumFault != Fine {
					t.Fatalf("%s: (%d / %d) * %d + %d %% %d = %d", c.name, a, b, b, a, b, back)
				}
			}
		}
		if fine == 0 {
			t.Errorf("%s: no quotient is fine", c.name)
		}
	}
}

// inside tells numbers of a range: all of a small one, else those about its ends, about 0, and about powers of 2.
func inside(least, most int) []int {
	if most-least < 256 {
		all := make([]int, 0, 256)
		for v := least; v <= most; v++ {
			all = append(all, v)
		}
		return all
	}
	var l []int
	for _, v := range wide(least, most) {
		if v >= least && v <= most {
			l = append(l, v)
		}
	}
	return l
}

// wide tells numbers in a range and out of it, the ends of int among them; each once.
func wide(least, most int) []int {
	l := []int{math.MinInt, math.MinInt + 1, math.MaxInt - 1, math.MaxInt, 3, 7, 10, 100, 1000, 12345, -3, -7, -10, -100, -1000, -12345}
	middles := []int{least, least / 2, 0, most / 2, most, 2 * most}
	for bit := range 34 {
		middles = append(middles, 1<<bit, -1<<bit)
	}
	for _, m := range middles {
		l = append(l, m-1, m, m+1)
	}
	slices.Sort(l)
	return slices.Compact(l)
}

func seconds(sign string, bits int, numbers []int) []int {
	if sign != "<<" && sign != ">>" {
		return numbers
	}
	l := []int{math.MinInt, -bits, math.MaxInt}
	for by := -2; by <= 65; by++ {
		l = append(l, by)
	}
	return l
}

func power(bits int) *big.Int { return new(big.Int).Lsh(big.NewInt(1), uint(bits)) }

// whole tells what Do must answer, for numbers that it takes, by numbers without bounds.
func whole(sign string, bits, least, most, a, b int) (int, int) {
	x, y, v := big.NewInt(int64(a)), big.NewInt(int64(b)), new(big.Int)
	if sign == "<<" || sign == ">>" {
		return wholeShift(sign, bits, most, x, b)
	}
	switch sign {
	case "+":
		v.Add(x, y)
	case "-":
		v.Sub(x, y)
	case "*":
		v.Mul(x, y)
	case "&":
		v.And(x, y)
	case "|":
		v.Or(x, y)
	case "^":
		v.Xor(x, y)
	case "/", "%":
		if b == 0 {
			return 0, Divides
		}
		v.Quo(x, y)
	}
	if v.Cmp(big.NewInt(int64(least))) < 0 || v.Cmp(big.NewInt(int64(most))) > 0 {
		return 0, Overflow
	}
	if sign == "%" {
		v.Sub(x, new(big.Int).Mul(v, y))
	}
	return int(v.Int64()), Fine
}

func wholeShift(sign string, bits, most int, x *big.Int, by int) (int, int) {
	if by < 0 || by >= bits {
		return 0, Overflow
	}
	if sign == ">>" {
		// Div rounds down where what it divides by is above 0.
		return int(new(big.Int).Div(x, power(by)).Int64()), Fine
	}
	v := new(big.Int).Mul(x, power(by))
	v.Mod(v, power(bits))
	if v.Cmp(big.NewInt(int64(most))) > 0 {
		v.Sub(v, power(bits))
	}
	return int(v.Int64()), Fine
}
