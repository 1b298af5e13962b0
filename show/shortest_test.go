package show

import (
	"sort"
	"strconv"
	"strings"
	"testing"

	"ferrule/api"
	"ferrule/parse"
)

// P4.3: no text is left out. The trees here are small enough that all ways of writing them can be gone through: each part with brackets around it and
// without. A tree stands in so many arrays that each level of nesting counts, and what is told must be as short as the shortest way that fits there.

// plain writes a tree as the grammar has it, with a blank between all tokens, and with brackets around those parts that are asked for.
type plain struct {
	tokens   []string
	brackets uint // a bit for each tree, in the order of its beginning
	trees    int
}

func (p *plain) put(tokens ...string) { p.tokens = append(p.tokens, tokens...) }

func (p *plain) list(kids []api.Expr, write func(x api.Expr)) {
	for i, kid := range kids {
		if i > 0 {
			p.put(",")
		}
		write(kid)
	}
}

func (p *plain) tree(x api.Expr) {
	bracketed := p.brackets>>p.trees&1 == 1
	p.trees++
	if bracketed {
		p.put("(")
	}
	p.inside(x)
	if bracketed {
		p.put(")")
	}
}

func (p *plain) inside(x api.Expr) {
	switch x.Kind {
	case api.ExVar:
		p.put(x.Text)
	case api.ExInt:
		p.put(strconv.Itoa(x.Num))
	case api.ExNeg, api.ExBorrow:
		p.put(map[int]string{api.ExNeg: "-", api.ExBorrow: "&"}[x.Kind])
		p.tree(x.Kids[0])
	case api.ExBin:
		p.tree(x.Kids[0])
		p.put(x.Text)
		p.tree(x.Kids[1])
	case api.ExCast:
		p.tree(x.Kids[0])
		p.put("as")
		p.typed(x.Ty[0])
	case api.ExField:
		p.tree(x.Kids[0])
		p.put(".", x.Text)
	case api.ExIndex:
		p.tree(x.Kids[0])
		p.put("[")
		p.tree(x.Kids[1])
		p.put("]")
	case api.ExCall, api.ExVariant:
		p.put(x.Text, "(")
		p.list(x.Kids, p.tree)
		p.put(")")
	case api.ExArray:
		p.put("[")
		p.list(x.Kids, p.tree)
		p.put("]")
	case api.ExRepeat:
		p.put("[")
		p.tree(x.Kids[0])
		p.put(";", strconv.Itoa(x.Num), "]")
	case api.ExStruct:
		p.put(x.Text, "{")
		p.list(x.Kids, func(init api.Expr) {
			p.put(init.Text, ":")
			p.tree(init.Kids[0])
		})
		p.put("}")
	case api.ExIf:
		p.put("if")
		p.tree(x.Kids[0])
		p.inside(x.Kids[1])
		if len(x.Kids) > 2 {
			p.put("else")
			p.inside(x.Kids[2])
		}
	case api.ExMatch:
		p.put("match")
		p.tree(x.Kids[0])
		p.put("{")
		p.list(x.Kids[1:], func(arm api.Expr) {
			p.put("_", "=>")
			p.tree(arm.Kids[1])
		})
		p.put("}")
	case api.ExBlock:
		p.put("{")
		for _, kid := range x.Kids {
			p.statement(kid)
		}
		p.put("}")
	}
}

// statement writes a statement, or a block's value. That of a tree has a ; which shorten leaves out, where it can.
func (p *plain) statement(x api.Expr) {
	switch x.Kind {
	case api.ExStmt:
		p.tree(x.Kids[0])
		p.put(";")
	case api.ExAssign:
		p.tree(x.Kids[0])
		p.put("=")
		p.tree(x.Kids[1])
		p.put(";")
	case api.ExWhile:
		p.put("while")
		p.tree(x.Kids[0])
		p.inside(x.Kids[1])
	case api.ExLoop:
		p.put("loop")
		p.inside(x.Kids[0])
	case api.ExReturn:
		p.put("return")
		p.tree(x.Kids[0])
		p.put(";")
	case api.ExLet:
		p.put("let", x.Text, ":")
		p.typed(x.Ty[0])
		p.put("=")
		p.tree(x.Kids[0])
		p.put(";")
	default:
		p.tree(x)
	}
}

func (p *plain) typed(t api.Type) {
	switch t.Kind {
	case api.TyU8:
		p.put("u8")
	case api.TyRef:
		p.put("&")
		p.typed(t.Elem[0])
	case api.TyBox:
		p.put("Box", "<")
		p.typed(t.Elem[0])
		p.put(">")
	}
}

// countTrees tells how many parts of a tree may have brackets around them.
func countTrees(x api.Expr) int {
	p := &plain{}
	p.tree(x)
	return p.trees
}

// arrays is a tree in so many arrays, each a level of nesting.
func arrays(x api.Expr, times int) api.Expr {
	for range times {
		x = ex(api.ExArray, "", x)
	}
	return x
}

func arrayText(text string, times int) string {
	return strings.Repeat("[", times) + text + strings.Repeat("]", times)
}

func parsesTo(text string, x api.Expr) bool {
	again, _, e := parse.Tree(text)
	return e == api.OK && sameTrees(x, again)
}

// shorten leaves out each byte without which a text parses to the same.
func shorten(text string, x api.Expr) string {
	for i := 0; i < len(text); {
		if shorter := text[:i] + text[i+1:]; (text[i] == ' ' || text[i] == ';') && parsesTo(shorter, x) {
			text = shorter
		} else {
			i++
		}
	}
	return text
}

// shortestWays tells, for each number of arrays around a tree, how long the shortest text of the tree is; 0, if none fits.
func shortestWays(x api.Expr) [api.MaxDeep]int {
	var ways [api.MaxDeep]int
	for brackets := range uint(1) << countTrees(x) {
		p := &plain{brackets: brackets}
		p.tree(x)
		text := strings.Join(p.tokens, " ")
		if !parsesTo(text, x) {
			continue
		}
		most := sort.Search(api.MaxDeep, func(times int) bool {
			_, _, e := parse.Tree(arrayText(text, times+1))
			return e != api.OK
		})
		// What can't become shorter than a text that may stand as deep need not be shortened.
		if least := len(text) - strings.Count(text, " ") - strings.Count(text, ";"); ways[most] > 0 && ways[most] <= least {
			continue
		}
		size := len(shorten(text, x))
		for times := range most + 1 {
			if ways[times] == 0 || ways[times] > size {
				ways[times] = size
			}
		}
	}
	return ways
}

func wantShortest(t *testing.T, x api.Expr) {
	t.Helper()
	ways := shortestWays(x)
	for times, want := range ways {
		changes := times > 0 && ways[times-1] != want || times < len(ways)-1 && ways[times+1] != want
		if times > 0 && !changes {
			continue
		}
		text, e := Tree(arrays(x, times))
		if want == 0 && (e != api.ErrForm || text != "") || want > 0 && (e != api.OK || len(text) != want+2*times) {
			t.Errorf("in %d arrays %s is told as %q, %d; the shortest one has %d bytes", times, brief(bareTree(x)), strings.Trim(text, "[]"), int(e), want)
			return
		}
	}
}

func TestNoShorterTextIsLeftOut(t *testing.T) {
	t.Parallel()
	for _, text := range []string{
		"a", "-a", "a+b*c", "(a+b)*c", "a-(b-c)", "& & &a", "a& & &b", "S{}", "{}", "{a}", "{({}).b}", "{({}).b as u8}", "{({})+1;}", "{({})=a;}", "{{};}", "{{}{}}", "{{}a}",
		"if(S{}){}", "if a==(S{}){}", "if(S{})==(S{}){}", "if(S{}).a as u8{}", "if a& &(S{}){}", "if a& & &(S{}).a{}", "if-(a& &(S{})){}", "if-(S{})+f(a)==(S{}){}",
		"if (S{})&&f(f(a))&&(S{}){}", "if f(f(f(a)))&&(S{})&&(S{}){}", "if f(f(a))==(S{})&&f(a)==(S{}){}", "match (S{})+f(f(a))+(S{}){}", "if if(S{}){}==(S{}){}else{}",
		"if if f(a)&&(S{})&&(S{}){}&&(S{}){}", "{while(S{})&&-f(f(a))&&(S{}){}}", "if (S{})[f(f(S{}))]==(S{}){}", "if (S{})[a]==f(f(a))[(S{})]{}",
		"a as Box<u8> >b", "a as Box<u8> >>b", "a as Box<Box<u8>> >>b", "a as Box<Box<Box<u8>>> >=b", "{a as Box<u8> =b;}", "{a as Box<Box<u8>> =b;}", "a as& &u8&b", "if a as Box<u8> >(S{}){}",
		"if a {} else if (S{}) == f(b) {} else { (S{}) }", "if (({}).a == (S{})) {}", "match (match (S{}) {}) == (S{}) {}", "if f(a)==(S{})&&f(f(f(a))){}",
		"if [S{};1]==(S{}){}", "if [a,S{}]==(S{}){}", "if E::A(S{},a)==(S{}){}", "if match a{_=>S{},_=>1}==(S{}){}", "if {S{}}==(S{}){}", "match (S{a:S{}}).a{_=>S{}}",
		// What stands between is deep, by one kind or another.
		"if(S{})&&[[[a;1];1];1]&&(S{}){}", "if(S{})&&[[[a]]]&&(S{}){}", "if(S{})&&f(T{b:T{b:f(a)}})&&(S{}){}", "if(S{})&&E::A(E::A(f(a)))&&(S{}){}", "if(S{})&&a[a[a[0]]]&&(S{}){}",
		"if(S{})&&---a&&(S{}){}", "if(S{})&&a as Box<& &u8>&&(S{}){}", "if(S{})&&match f(a){}&&(S{}){}", "if(S{})&&match a{_=>f(f(a))}&&(S{}){}", "if(S{})&&{f(f(a))}&&(S{}){}",
		"if(S{})&&{let a:Box<Box<u8>> =b;}&&(S{}){}", "if(S{})&&{let a:u8=f(f(b));}&&(S{}){}", "if(S{})&&{while f(a){f(b);}}&&(S{}){}", "if(S{})&&{loop{return f(b);}}&&(S{}){}",
		"if(S{})&&{f(a)=f(f(b));}&&(S{}){}", "if(S{})&&if a{}else if a{}else{b}&&(S{}){}", "if(S{})&&if f(a){}&&(S{}){}", "if(S{})&&{{{{}}}}&&(S{}){}", "if(S{})&&{{{}}{}{};}&&(S{}){}",
		"if a as u8 == (S{}).a as u8 {}",
	} {
		wantShortest(t, parsed(t, text))
	}
}

// small makes a tree of few parts, in which brackets are often needed.
func (m *maker) small(parts *int) api.Expr {
	*parts--
	if *parts <= 0 {
		if m.often(3) {
			return ex(api.ExStruct, "S")
		}
		return named("a")
	}
	switch m.chance.Intn(14) {
	case 0:
		return ex(api.ExNeg, "", m.small(parts))
	case 1:
		return ex(api.ExBorrow, "", m.small(parts))
	case 2, 3, 4:
		return bin(m.one("&&", "==", ">", ">>", "&", "+", "-", "*"), m.small(parts), m.small(parts))
	case 5:
		of := []api.Type{ty(api.TyU8), ty(api.TyBox, ty(api.TyU8)), ty(api.TyBox, ty(api.TyBox, ty(api.TyU8))), ty(api.TyRef, ty(api.TyRef, ty(api.TyU8)))}
		return typed(ex(api.ExCast, "", m.small(parts)), of[m.chance.Intn(len(of))])
	case 6:
		return ex(api.ExField, "a", m.small(parts))
	case 7:
		return ex(api.ExIndex, "", m.small(parts), m.small(parts))
	case 8:
		return ex(api.ExCall, "f", m.small(parts))
	case 9:
		return block(ex(api.ExAssign, "", m.small(parts), m.small(parts)))
	case 10:
		return valued(stmt(m.small(parts)), m.small(parts))
	case 11:
		return block(ex(api.ExWhile, "", m.small(parts), block(stmt(m.small(parts)))))
	case 12:
		return ex(api.ExMatch, "", m.small(parts))
	}
	return ex(api.ExIf, "", m.small(parts), block(), valued(m.small(parts)))
}

func TestNoShorterTextIsLeftOutByChance(t *testing.T) {
	t.Parallel()
	for turn := range 400 {
		parts := 2 + turn%4
		x := newMaker(turn).small(&parts)
		if turn%2 == 0 {
			x = ex(api.ExIf, "", x, block())
		}
		if countTrees(x) <= 8 {
			wantShortest(t, x)
		}
		if t.Failed() {
			return
		}
	}
}
