package lex

import (
	"math/rand"
	"regexp"
	"slices"
	"strconv"
	"strings"
	"testing"

	"ferrule/api"
)

// What the chapter lists, written out anew so that the package's own tables are not their judge.
var (
	allWords = strings.Fields("fn struct enum const let mut if else match while loop break continue return true false as")
	allSigns = strings.Fields("-> => :: == != <= >= && || << >> ( ) { } [ ] < > + - * / % & | ^ ! = , ; : .")
	allTypes = strings.Fields("i8 i16 i32 u8 u16 u32")
)

func name(text string, at int) api.Token { return api.Token{Kind: api.TokName, Text: text, At: at} }
func num(text string, at int) api.Token  { return api.Token{Kind: api.TokInt, Text: text, At: at} }
func word(text string, at int) api.Token { return api.Token{Kind: api.TokWord, Text: text, At: at} }
func sign(text string, at int) api.Token { return api.Token{Kind: api.TokSign, Text: text, At: at} }

func wantTokens(t *testing.T, text string, want ...api.Token) {
	t.Helper()
	got, at, e := Lex(text)
	if !slices.Equal(got, want) || at != 0 || e != api.OK {
		t.Errorf("Lex(%.60q) = %v, %d, %d; want %v, 0, 0", text, got, at, int(e), want)
	}
}

func wantFault(t *testing.T, text string, wantAt int, want api.Errno) {
	t.Helper()
	got, at, e := Lex(text)
	if len(got) != 0 || at != wantAt || e != want {
		t.Errorf("Lex(%.60q) = %v, %d, %d; want none, %d, %d", text, got, at, int(e), wantAt, int(want))
	}
}

// P2.1: tokens

func TestLexTellsTheExample(t *testing.T) {
	wantTokens(t, "a<=12u8 // x", name("a", 0), sign("<=", 1), num("12u8", 3))
	wantFault(t, "07", 0, api.ErrNumber)
}

func TestLexTellsAProgram(t *testing.T) {
	wantTokens(t, "fn main() {\n\tlet mut x: u8 = 1; // no\n}", word("fn", 0), name("main", 3), sign("(", 7), sign(")", 8), sign("{", 10),
		word("let", 13), word("mut", 17), name("x", 21), sign(":", 22), name("u8", 24), sign("=", 27), num("1", 29), sign(";", 30), sign("}", 38))
	wantTokens(t, "match a.b[0]{E::V(_)=>true,_=>x as i8}", word("match", 0), name("a", 6), sign(".", 7), name("b", 8), sign("[", 9), num("0", 10), sign("]", 11),
		sign("{", 12), name("E", 13), sign("::", 14), name("V", 16), sign("(", 17), name("_", 18), sign(")", 19), sign("=>", 20), word("true", 22), sign(",", 26),
		name("_", 27), sign("=>", 28), name("x", 30), word("as", 32), name("i8", 35), sign("}", 37))
}

func TestLexTellsNothingOfNothing(t *testing.T) {
	for _, text := range []string{"", " ", "\t", "\n", "\r", " \t\r\n", "//", "///", "// x", "//\n", "//\n//", "// fn 07 # \x00\x80\xff", "//\r07#", " // \n\r\t//"} {
		wantTokens(t, text)
	}
}

func TestLexTellsWords(t *testing.T) {
	for _, w := range allWords {
		wantTokens(t, w, word(w, 0))
		wantTokens(t, "\n"+w+";", word(w, 1), sign(";", 1+len(w)))
		for _, other := range []string{w + "s", w + "_", w + "1", "_" + w, "x" + w, strings.ToUpper(w), strings.ToUpper(w[:1]) + w[1:], w[:len(w)-1] + "_"} {
			wantTokens(t, other, name(other, 0))
		}
	}
}

func TestLexTellsNames(t *testing.T) {
	for _, n := range []string{"a", "z", "A", "Z", "_", "__", "_0", "_9z", "a0", "Z9", "aZ_09", "u8", "i32", "bool", "Box", "main", "fn_", "selfs", "for", "impl", "use", "pub"} {
		wantTokens(t, n, name(n, 0))
		wantTokens(t, " "+n+" ", name(n, 1))
		wantTokens(t, "("+n+")", sign("(", 0), name(n, 1), sign(")", 1+len(n)))
	}
}

func TestLexTellsInts(t *testing.T) {
	for _, n := range []string{"0", "1", "9", "10", "1234567890", "4294967295"} {
		for _, kind := range append([]string{""}, allTypes...) {
			wantTokens(t, n+kind, num(n+kind, 0))
			wantTokens(t, "-"+n+kind+".", sign("-", 0), num(n+kind, 1), sign(".", 1+len(n+kind)))
		}
	}
	wantTokens(t, "1.5", num("1", 0), sign(".", 1), num("5", 2))
	wantTokens(t, "0..0", num("0", 0), sign(".", 1), sign(".", 2), num("0", 3))
}

func TestLexTellsSigns(t *testing.T) {
	for _, s := range allSigns {
		wantTokens(t, s, sign(s, 0))
		wantTokens(t, "a"+s+"0", name("a", 0), sign(s, 1), num("0", 1+len(s)))
	}
}

func TestLexTakesTheLongestSign(t *testing.T) {
	wantTokens(t, "<<=", sign("<<", 0), sign("=", 2))
	wantTokens(t, "<<<", sign("<<", 0), sign("<", 2))
	wantTokens(t, ">>>>", sign(">>", 0), sign(">>", 2))
	wantTokens(t, ">>=", sign(">>", 0), sign("=", 2))
	wantTokens(t, "==>", sign("==", 0), sign(">", 2))
	wantTokens(t, "=>=", sign("=>", 0), sign("=", 2))
	wantTokens(t, "===", sign("==", 0), sign("=", 2))
	wantTokens(t, "!==", sign("!=", 0), sign("=", 2))
	wantTokens(t, "!!=", sign("!", 0), sign("!=", 1))
	wantTokens(t, "<->", sign("<", 0), sign("->", 1))
	wantTokens(t, "-->", sign("-", 0), sign("->", 1))
	wantTokens(t, "->>", sign("->", 0), sign(">", 2))
	wantTokens(t, ":::", sign("::", 0), sign(":", 2))
	wantTokens(t, "&&&", sign("&&", 0), sign("&", 2))
	wantTokens(t, "|||", sign("||", 0), sign("|", 2))
	wantTokens(t, "+=", sign("+", 0), sign("=", 1))
	wantTokens(t, "/*/", sign("/", 0), sign("*", 1), sign("/", 2))
}

func TestLexTellsSignsApartByBlanks(t *testing.T) {
	for _, s := range allSigns {
		if len(s) != 2 {
			continue
		}
		for _, blank := range []string{" ", "\t", "\n", "\r", "//\n"} {
			wantTokens(t, s[:1]+blank+s[1:], sign(s[:1], 0), sign(s[1:], 1+len(blank)))
		}
	}
	wantTokens(t, "/ /", sign("/", 0), sign("/", 2))
}

func TestLexPassesOverBlanks(t *testing.T) {
	for _, blank := range []string{" ", "\t", "\n", "\r", "  ", "\r\n", "//\n", "// x\n", "///\n", "// // \n", "//\r \n", "// 07 # \x00\x7f\x80\xff ö\n", " //a\n//b\n\t"} {
		wantTokens(t, "a"+blank+"b", name("a", 0), name("b", 1+len(blank)))
		wantTokens(t, blank+"1"+blank, num("1", len(blank)))
		wantTokens(t, "<"+blank+"=", sign("<", 0), sign("=", 1+len(blank)))
	}
	wantTokens(t, "1//\r2", num("1", 0))
	wantTokens(t, "a//b\nc", name("a", 0), name("c", 5))
	wantTokens(t, "a / b", name("a", 0), sign("/", 2), name("b", 4))
	wantTokens(t, "x//"+strings.Repeat("y", 3*api.MaxName), name("x", 0))
}

// P2.1: limits and faults

func TestLexHasALimitOfBytes(t *testing.T) {
	wantTokens(t, strings.Repeat(" ", api.MaxText))
	wantTokens(t, "//"+strings.Repeat("#", api.MaxText-2))
	wantTokens(t, strings.Repeat(" ", api.MaxText-1)+"x", name("x", api.MaxText-1))
	wantFault(t, strings.Repeat(" ", api.MaxText-1)+"#", api.MaxText-1, api.ErrByte)
	wantFault(t, strings.Repeat("1", api.MaxText), 0, api.ErrNumber)
	wantFault(t, strings.Repeat("x", api.MaxText), 0, api.ErrByte)

	wantFault(t, strings.Repeat(" ", api.MaxText+1), 0, api.ErrBig)
	wantFault(t, " #"+strings.Repeat(" ", api.MaxText), 0, api.ErrBig)
	wantFault(t, "  07"+strings.Repeat(" ", api.MaxText), 0, api.ErrBig)
	wantFault(t, strings.Repeat("ö", api.MaxText/2)+" ", 0, api.ErrBig)

	many, at, e := Lex(strings.Repeat(".", api.MaxText))
	if len(many) != api.MaxText || many[api.MaxText-1] != sign(".", api.MaxText-1) || at != 0 || e != api.OK {
		t.Error(len(many), at, int(e))
	}
}

func TestLexHasALimitOfNames(t *testing.T) {
	for _, c := range []string{"a", "Z", "_"} {
		long := strings.Repeat(c, api.MaxName)
		wantTokens(t, long, name(long, 0))
		wantTokens(t, "-"+long+"-", sign("-", 0), name(long, 1), sign("-", 1+api.MaxName))
		wantFault(t, long+c, 0, api.ErrByte)
		wantFault(t, "fn "+long+"0", 3, api.ErrByte)
		wantFault(t, "fn "+long+"_ 07", 3, api.ErrByte)
	}
	wantFault(t, strings.Repeat("x", 10*api.MaxName), 0, api.ErrByte)
	wantFault(t, strings.Repeat("while", 9), 0, api.ErrByte)
}

func TestLexRefusesBytes(t *testing.T) {
	begins := "abcdefghijklmnopqrstuvwxyzABCDEFGHIJKLMNOPQRSTUVWXYZ_0123456789" + strings.Join(allSigns, "") + " \t\n\r"
	refused := 0
	for c := range 256 {
		if strings.IndexByte(begins, byte(c)) >= 0 {
			if _, at, e := Lex(string([]byte{byte(c)})); at != 0 || e != api.OK {
				t.Error(c, at, int(e))
			}
			continue
		}
		refused++
		text := string([]byte{byte(c)})
		wantFault(t, text, 0, api.ErrByte)
		wantFault(t, "ab"+text, 2, api.ErrByte)
		wantFault(t, "12"+text, 2, api.ErrByte)
		wantFault(t, "<"+text+"=", 1, api.ErrByte)
		wantFault(t, " //\n "+text+" 07", 5, api.ErrByte)
		wantTokens(t, "//"+text+"\n.", sign(".", 4))
	}
	if refused != 256-63-22-4 {
		t.Error(refused)
	}
	for _, text := range []string{"ö", "é", "λ", "０", "\u00a0", "\u2028", "\ufeff", "−", "“"} {
		wantFault(t, text, 0, api.ErrByte)
		wantFault(t, "a"+text, 1, api.ErrByte)
		wantFault(t, "1"+text, 1, api.ErrByte)
	}
}

func TestLexRefusesInts(t *testing.T) {
	for _, n := range badInts() {
		wantFault(t, n, 0, api.ErrNumber)
		wantFault(t, "x = "+n+";", 4, api.ErrNumber)
		wantFault(t, "//\n("+n+")", 4, api.ErrNumber)
	}
}

func TestLexTellsTheFirstFault(t *testing.T) {
	wantFault(t, "a 07 #", 2, api.ErrNumber)
	wantFault(t, "a # 07", 2, api.ErrByte)
	wantFault(t, "a # @", 2, api.ErrByte)
	wantFault(t, "07 08", 0, api.ErrNumber)
	wantFault(t, "// # 07\n @", 9, api.ErrByte)
	wantFault(t, "07#", 0, api.ErrNumber)
}

// P2.1: Word

func TestWordTellsWords(t *testing.T) {
	for _, w := range allWords {
		if !Word(w) {
			t.Errorf("Word(%q) = false", w)
		}
		for _, other := range []string{w + " ", " " + w, w + "s", w[1:], w[:len(w)-1], strings.ToUpper(w), w + "\x00", w + w} {
			if Word(other) {
				t.Errorf("Word(%q) = true", other)
			}
		}
	}
	others := append([]string{"", " ", "_", "x", "i8", "u32", "bool", "Box", "main", "print", "for", "in", "impl", "pub", "use", "self", "0", "\xff", "ö"}, allSigns...)
	for _, other := range others {
		if Word(other) {
			t.Errorf("Word(%q) = true", other)
		}
	}
	if Word(strings.Repeat("fn", 1<<20)) {
		t.Error("Word of a long text")
	}
}

// P2.2

// badInts are ints by their form that Number refuses.
func badInts() []string {
	list := strings.Fields("00 01 07 000 007 00u8 01i32 0000000000 00000000001 0123456789 12345678901 10000000000 42949672950 99999999999999999999")
	list = append(list, strings.Fields("4294967296 4294967296u8 4294967300 5000000000i32 9999999999 9999999999u32")...)
	list = append(list, strings.Fields("1_ 1_000 1_u8 0_ 0x 0x10 0b1 0o7 1e3 1a 1u 1i 1u7 1u9 1u80 1u81 1u64 1i64 1i128 1u1 1i3 1usize 1isize 1f32 1U8 1I16 1u8u8 1u8_ 1u8i8 1bool 1fn 1__u8 12u16u 0u8x")...)
	return append(list, strings.Repeat("9", 19), strings.Repeat("9", 1000), "1"+strings.Repeat("0", 64), "18446744073709551617", "1"+strings.Repeat("u8", 30))
}

func TestNumberTellsNumbers(t *testing.T) {
	for _, n := range []int{0, 1, 9, 10, 12, 99, 100, 255, 256, 65535, 65536, 999999999, 1000000000, 1<<31 - 1, 1 << 31, 1<<32 - 2, 1<<32 - 1} {
		for _, want := range append([]string{""}, allTypes...) {
			text := strconv.Itoa(n) + want
			if v, kind, e := Number(text); v != n || kind != want || e != api.OK {
				t.Errorf("Number(%q) = %d, %q, %d", text, v, kind, int(e))
			}
		}
	}
}

func TestNumberRefuses(t *testing.T) {
	bad := append(badInts(), "", " ", "x", "_", "u8", "i32", "_1", "u8 1", " 1", "1 ", "1 u8", "1\n", "\t1", "+1", "-1", "-0", "--1", "1.0", ".1", "1.", "1-", "fn", "#", "<=",
		"1//", "1\x00", "\x001", "\xff", "1\xff", "1u8\x80", "１", "1２", "٣", "1,000", "(1)", "12u8 // x", strings.Repeat(" ", api.MaxText+1), strings.Repeat("1", api.MaxText+1))
	for _, text := range bad {
		if v, kind, e := Number(text); v != 0 || kind != "" || e != api.ErrNumber {
			t.Errorf("Number(%.60q) = %d, %q, %d", text, v, kind, int(e))
		}
	}
}

var plainNumber = regexp.MustCompile(`^(0|[1-9][0-9]{0,9})(|i8|i16|i32|u8|u16|u32)$`)

// Number as the chapter says it, by a pattern.
func slowNumber(s string) (int, string, api.Errno) {
	m := plainNumber.FindStringSubmatch(s)
	if m == nil {
		return 0, "", api.ErrNumber
	}
	v, err := strconv.ParseUint(m[1], 10, 32)
	if err != nil {
		return 0, "", api.ErrNumber
	}
	return int(v), m[2], api.OK
}

func TestNumberAgreesWithAPattern(t *testing.T) {
	eachText("0123u8i6_ \n", 5, func(text string) {
		v, kind, e := Number(text)
		if wantV, wantKind, wantE := slowNumber(text); v != wantV || kind != wantKind || e != wantE {
			t.Fatalf("Number(%q) = %d, %q, %d", text, v, kind, int(e))
		}
	})
	r := rand.New(rand.NewSource(2))
	for range 20000 {
		text := strconv.Itoa(r.Intn(6000000000)) + append(allTypes, "", "", "u", "i64")[r.Intn(10)]
		v, kind, e := Number(text)
		if wantV, wantKind, wantE := slowNumber(text); v != wantV || kind != wantKind || e != wantE {
			t.Fatalf("Number(%q) = %d, %q, %d", text, v, kind, int(e))
		}
	}
}

// P2.3, and P2.1 against patterns

// eachText goes over all texts of an alphabet's bytes up to a length.
func eachText(alphabet string, most int, tell func(text string)) {
	var grow func(text string)
	grow = func(text string) {
		tell(text)
		if len(text) == most {
			return
		}
		for i := range len(alphabet) {
			grow(text + alphabet[i:i+1])
		}
	}
	grow("")
}

var (
	blankPattern = regexp.MustCompile(`^(?:[ \t\n\r]|//[^\n]*)+`)
	namePattern  = regexp.MustCompile(`^[A-Za-z_][A-Za-z_0-9]*`)
	intPattern   = regexp.MustCompile(`^[0-9][A-Za-z_0-9]*`)
	signPattern  = longest(allSigns)
)

func longest(texts []string) *regexp.Regexp {
	var quoted []string
	for _, s := range texts {
		quoted = append(quoted, regexp.QuoteMeta(s))
	}
	p := regexp.MustCompile("^(?:" + strings.Join(quoted, "|") + ")")
	p.Longest()
	return p
}

// Lex as the chapter says it, by patterns.
func slowLex(text string) ([]api.Token, int, api.Errno) {
	var tokens []api.Token
	at := len(blankPattern.FindString(text))
	for at < len(text) {
		rest := text[at:]
		var token api.Token
		if s := namePattern.FindString(rest); s != "" {
			token = name(s, at)
			if slices.Contains(allWords, s) {
				token = word(s, at)
			}
			if len(s) > 40 {
				return nil, at, api.ErrByte
			}
		} else if s := intPattern.FindString(rest); s != "" {
			token = num(s, at)
			if _, _, e := slowNumber(s); e != api.OK {
				return nil, at, api.ErrNumber
			}
		} else if s := signPattern.FindString(rest); s != "" {
			token = sign(s, at)
		} else {
			return nil, at, api.ErrByte
		}
		tokens = append(tokens, token)
		at += len(token.Text)
		at += len(blankPattern.FindString(text[at:]))
	}
	return tokens, 0, api.OK
}

func checkText(t *testing.T, text string) {
	t.Helper()
	tokens, at, e := Lex(text)
	wantList, wantAt, wantE := slowLex(text)
	if !slices.Equal(tokens, wantList) || at != wantAt || e != wantE {
		t.Fatalf("Lex(%q) = %v, %d, %d; want %v, %d, %d", text, tokens, at, int(e), wantList, wantAt, int(wantE))
	}
	if e != api.OK {
		return
	}
	behind := 0
	for _, token := range tokens {
		if token.At < behind || !isBlanks(text[behind:token.At]) || !strings.HasPrefix(text[token.At:], token.Text) {
			t.Fatalf("Lex(%q): at %v, behind %d", text, token, behind)
		}
		behind = token.At + len(token.Text)
		token.At = 0
		wantTokens(t, token.Text, token)
	}
	if !isBlanks(text[behind:]) {
		t.Fatalf("Lex(%q): no blanks behind %d", text, behind)
	}
}

func isBlanks(text string) bool { return blankPattern.FindString(text) == text }

func TestLexAgreesWithPatterns(t *testing.T) {
	eachText("a_01u8<=->/ \n#\x80", 4, func(text string) { checkText(t, text) })
	for _, a := range allSigns {
		for _, b := range allSigns {
			for _, c := range allSigns {
				checkText(t, a+b+c)
			}
		}
	}
}

func TestLexAgreesWithPatternsOnLongTexts(t *testing.T) {
	parts := slices.Concat(allWords, allSigns, allSigns, []string{" ", "\n", "\t", "\r", "// x # 07\n", "a", "_", "Zz_9", "0", "12u8", "65535", "4294967295i32", strings.Repeat("q", 20)})
	faults := []string{"#", "\xff", "@", "4294967296", "07", "1_0", strings.Repeat("k", 41)}
	r := rand.New(rand.NewSource(1))
	for i := range 4000 {
		var b strings.Builder
		for range r.Intn(60) {
			b.WriteString(parts[r.Intn(len(parts))])
			if r.Intn(2) == 0 {
				b.WriteByte(' ')
			}
			if i%4 == 0 && r.Intn(30) == 0 {
				b.WriteString(faults[r.Intn(len(faults))])
			}
		}
		checkText(t, b.String())
	}
}

// What Lex tells is the caller's own: changing it changes no later answer.
func TestLexTellsNewMemory(t *testing.T) {
	text := "a + 1"
	first, _, _ := Lex(text)
	for i := range first[:cap(first)] {
		first[:cap(first)][i] = api.Token{Kind: -1, Text: "gone", At: -1}
	}
	wantTokens(t, text, name("a", 0), sign("+", 2), num("1", 4))
}
