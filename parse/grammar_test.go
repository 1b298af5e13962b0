package parse

import (
	"math/rand"
	"slices"
	"strings"
	"testing"

	"ferrule/api"
)

// The chapter's grammar once more, for a recognizer of any grammar to judge where a text can't go on: each line a name and what it may be.
// A tree has three modes: F is free, C is of a cond, N begins a statement, and so with nothing closed. >' and >" are the halves of >>.
const parts = `
program: ¦ program item
item: fn any ( list.param ) answer block ¦ struct any { list.field } ¦ enum any { list.variant } ¦ const any : type = signed ;
any: name ¦ _ ¦ Box
answer: ¦ -> type
param: field ¦ mut field
field: any : type
variant: any ¦ any ( list.type )
type: name ¦ _ ¦ Box < type close ¦ ( ) ¦ [ type ; int ] ¦ & type ¦ & mut type
close: > ¦ >' ¦ >"
number: int ¦ suffixed ¦ big
signed: number ¦ - number
block: { stmts } ¦ { stmts treeN }
stmts: ¦ stmts stmt
stmt: let any typed = treeF ; ¦ let mut any typed = treeF ; ¦ while treeC block ¦ loop block ¦ break ; ¦ continue ; ¦ return ; ¦ return treeF ;
stmt: treeN = treeF ; ¦ treeN ; ¦ closed ¦ closed ;
typed: ¦ : type
closed: ifs ¦ match treeC { list.arm } ¦ block
ifs: if treeC block ¦ if treeC block else block ¦ if treeC block else ifs
arm: pattern => treeF
pattern: _ ¦ signed ¦ true ¦ false ¦ own :: own ¦ own :: own ( list.any )
own: name ¦ Box
init: any : treeF
compare: == ¦ != ¦ < ¦ <= ¦ > ¦ >= ¦ >"
shift: << ¦ >' >"
sum: + ¦ -
product: * ¦ / ¦ %
primaryF: any { list.init } ¦ closed
primaryC: closed
primaryN: any { list.init }`

const modes = `
tree*: or*
or*: and* ¦ or* || and/
and*: cmp* ¦ and* && cmp/
cmp*: bor* ¦ bor* compare bor/
bor*: xor* ¦ bor* | xor/
xor*: band* ¦ xor* ^ band/
band*: shl* ¦ band* & shl/
shl*: sum* ¦ shl* shift sum/
sum*: product* ¦ sum* sum product/
product*: cast* ¦ product* product cast/
cast*: operand* ¦ cast* as type
operand*: - operand/ ¦ ! operand/ ¦ * operand/ ¦ & operand/ ¦ & mut operand/ ¦ parts*
parts*: primary* ¦ parts* . any ¦ parts* [ treeF ]
primary*: number ¦ true ¦ false ¦ ( ) ¦ ( treeF ) ¦ any ¦ any ( list.treeF ) ¦ any :: any ¦ any :: any ( list.treeF )
primary*: [ list.treeF ] ¦ [ treeF ; int ]`

// alphabet is every token that is tried: what is not a word or a sign by some of its texts.
var alphabet = strings.Fields("fn struct enum const let mut if else match while loop break continue return true false as " +
	"-> => :: == != <= >= && || << >> ( ) { } [ ] < > + - * / % & | ^ ! = , ; : . name _ Box int suffixed big")

var samples = map[string]string{"name": "a", "int": "65535", "suffixed": "7u8", "big": "65536"}

type production struct {
	left  string
	right []string
}

type grammar struct {
	all   []production
	of    map[string][]int
	empty map[string]bool
}

// readGrammar writes out the modes and the lists, and finds what may be empty.
func readGrammar() *grammar {
	text := parts
	for _, mode := range []string{"F", "C", "N"} {
		right := mode
		if mode == "N" {
			right = "F"
		}
		for _, line := range strings.Split(modes, "\n") {
			for _, word := range strings.Fields(line) {
				written := word
				if len(word) > 2 && (strings.HasSuffix(word, "*") || strings.HasSuffix(word, "*:")) {
					written = strings.Replace(word, "*", mode, 1)
				} else if len(word) > 2 && strings.HasSuffix(word, "/") {
					written = strings.TrimSuffix(word, "/") + right
				}
				if strings.HasSuffix(word, ":") && len(word) > 2 {
					text += "\n"
				}
				text += " " + written
			}
		}
	}
	g := &grammar{of: map[string][]int{}, empty: map[string]bool{}}
	for _, line := range strings.Split(text, "\n") {
		left, right, _ := strings.Cut(strings.TrimSpace(line), ": ")
		if left == "" {
			continue
		}
		for _, one := range strings.Split(right, "¦") {
			g.add(strings.TrimSuffix(left, ":"), strings.Fields(one)...)
		}
	}
	for range g.all {
		for _, p := range g.all {
			if !slices.ContainsFunc(p.right, func(s string) bool { return !g.empty[s] }) {
				g.empty[p.left] = true
			}
		}
	}
	return g
}

func (g *grammar) add(left string, right ...string) {
	for _, symbol := range right {
		if of, ok := strings.CutPrefix(symbol, "list."); ok && g.of[symbol] == nil {
			g.of[symbol] = []int{}
			g.add(symbol)
			g.add(symbol, "some."+of)
			g.add(symbol, "some."+of, ",")
			g.add("some."+of, of)
			g.add("some."+of, "some."+of, ",", of)
		}
	}
	g.of[left] = append(g.of[left], len(g.all))
	g.all = append(g.all, production{left, right})
}

// state is a production that was read up to a dot, from a token on.
type state struct{ rule, dot, from int }

// chart is Earley's: for each token read, the states that are possible behind it, by what they wait for.
type chart struct {
	*grammar
	start string
	sets  []map[string][]state
}

func newChart(g *grammar, start string) *chart {
	c := &chart{grammar: g, start: start}
	var first []state
	for _, rule := range g.of[start] {
		first = append(first, state{rule, 0, 0})
	}
	c.push(first)
	return c
}

// push adds a set: the states that are given, and all that follow from them.
func (c *chart) push(work []state) {
	here := len(c.sets)
	set, seen := map[string][]state{}, map[state]bool{}
	c.sets = append(c.sets, set)
	for len(work) > 0 {
		s := work[len(work)-1]
		work = work[:len(work)-1]
		if seen[s] {
			continue
		}
		seen[s] = true
		p := c.all[s.rule]
		if s.dot == len(p.right) {
			set[""] = append(set[""], s)
			for _, w := range c.sets[s.from][p.left] {
				work = append(work, state{w.rule, w.dot + 1, w.from})
			}
			continue
		}
		next := p.right[s.dot]
		set[next] = append(set[next], s)
		for _, rule := range c.of[next] {
			work = append(work, state{rule, 0, here})
		}
		if c.empty[next] {
			work = append(work, state{s.rule, s.dot + 1, s.from})
		}
	}
}

func (c *chart) goesOn(token string) bool { return len(c.sets[len(c.sets)-1][token]) > 0 }

func (c *chart) read(token string) {
	var next []state
	for _, s := range c.sets[len(c.sets)-1][token] {
		next = append(next, state{s.rule, s.dot + 1, s.from})
	}
	c.push(next)
}

func (c *chart) back() { c.sets = c.sets[:len(c.sets)-1] }

// whole tells whether the tokens that were read are all that there need be.
func (c *chart) whole() bool {
	return slices.ContainsFunc(c.sets[len(c.sets)-1][""], func(s state) bool { return s.from == 0 && c.all[s.rule].left == c.start })
}

// takes tells how many bytes of a token can be read, and reads them: all, or none, or one of >>.
func (c *chart) takes(token string) (int, int) {
	halves := []string{token}
	if token == ">>" {
		halves = []string{">'", ">\""}
	}
	for i, half := range halves {
		if !c.goesOn(half) {
			return i, i
		}
		c.read(half)
	}
	return len(sample(token)), len(halves)
}

func sample(token string) string {
	if text, ok := samples[token]; ok {
		return text
	}
	return token
}

// try holds what parse tells of a text with one token more against the chart, and tells whether the text may go on with it.
func (c *chart) try(t *testing.T, before, token string) bool {
	t.Helper()
	text := before + " " + sample(token)
	place, want := len(text), api.ErrParse
	if token == "big" && c.goesOn("int") && !c.goesOn("big") {
		want = api.ErrNumber
	}
	bytes, sets := c.takes(token)
	taken := bytes == len(sample(token))
	if !taken {
		place = len(before) + 1 + bytes
	} else if c.whole() {
		place, want = 0, api.OK
	}
	for range sets {
		c.back()
	}
	read := readProgram
	if c.start != "program" {
		read = readTree
	}
	if at, e := read(text); (at != place || e != want) && e != api.ErrDeep {
		t.Errorf("%s: %q = %d, %d; want %d, %d", c.start, text, at, int(e), place, int(want))
	}
	return taken
}

// begin reads tokens that may stand there, and tells their text.
func (c *chart) begin(t *testing.T, tokens ...string) string {
	t.Helper()
	text := ""
	for _, token := range tokens {
		if !c.try(t, text, token) {
			t.Fatalf("%q %q is not in the grammar", text, token)
		}
		c.takes(token)
		text += " " + sample(token)
	}
	return text
}

// tryAll tries all tokens behind a text, and behind each one that may stand there again, as deep as is asked.
func (c *chart) tryAll(t *testing.T, before string, deep int) {
	for _, token := range alphabet {
		if !c.try(t, before, token) || deep == 1 {
			continue
		}
		_, sets := c.takes(token)
		c.tryAll(t, before+" "+sample(token), deep-1)
		for range sets {
			c.back()
		}
	}
}

func TestEachTokenBehindShortTexts(t *testing.T) {
	g := readGrammar()
	c := newChart(g, "treeF")
	c.tryAll(t, "", 3)
	for _, text := range []string{
		"if name", "if int", "if name == name", "if ( name", "match name {", "match name { _ =>", "match name { name ::", "match name { name :: name (", "match name { name :: name ( name", "match name { name :: name ( name )",
		"match name { - ", "match name { int", "match name { _ => name", "match name { _ => { }", "name as", "name as [", "name as [ name ;", "name as Box <", "name as Box < name", "name as Box < Box < name", "name as Box < name >>", "[ name ;", "[ name ; int", "[ name , name",
		"if name { } else", "if name { } else if", "if name { } else { }", "{ while", "{ while name { }", "{ loop", "{ loop { }", "{ let", "{ let mut", "{ let name", "{ let name :", "{ let name : name", "{ let name : Box < name", "{ let name =", "{ break", "{ return", "{ return name",
		"{ name =", "{ name = name", "{ name", "{ if name { }", "{ if name { } else { }", "{ match name { }", "{ { }", "{ { } ;", "{ - { }", "name { name", "name { name :", "name { name : name ,", "name ::", "name :: name", "name :: name (", "name .", "name [", "& mut", "int <", "name < name", "name < name + name", "name as name <", "name < name as Box < name",
	} {
		c := newChart(g, "treeF")
		c.tryAll(t, c.begin(t, strings.Fields(text)...), 2)
	}
	c = newChart(g, "program")
	c.tryAll(t, "", 4)
	for _, text := range []string{
		"fn name (", "fn name ( name :", "fn name ( mut", "fn name ( name : name ,", "fn name ( )", "fn name ( ) ->", "fn name ( ) -> name", "fn name ( ) -> Box < name", "fn name ( ) {", "fn name ( ) { }", "struct name {", "struct name { name : name", "struct name { name : Box < Box < name",
		"enum name {", "enum name { name", "enum name { name (", "enum name { name ( name", "const name :", "const name : name", "const name : Box < name", "const name : name =", "const name : name = -", "const name : name = int", "const name : [ name ;",
	} {
		c := newChart(g, "program")
		c.tryAll(t, c.begin(t, strings.Fields(text)...), 2)
	}
}

func TestEachTokenOnRandomWays(t *testing.T) {
	g, chance := readGrammar(), rand.New(rand.NewSource(3))
	for turn := range 90 {
		start := []string{"treeF", "program", "program"}[turn%3]
		c := newChart(g, start)
		text := ""
		if turn%3 == 2 {
			text = c.begin(t, strings.Fields("fn name ( ) {")...)
		}
		for range 24 {
			var may []string
			for _, token := range alphabet {
				if c.try(t, text, token) {
					may = append(may, token)
				}
			}
			if len(may) == 0 {
				t.Fatalf("%q goes on with nothing", text)
			}
			token := may[chance.Intn(len(may))]
			c.takes(token)
			text += " " + sample(token)
		}
	}
}
