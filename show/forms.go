package show

import (
	"slices"
	"strings"

	"ferrule/api"
)

// edge is what a text begins or ends with, as far as a blank hangs on it: two texts need one between, where both edges are the same and not free.
type edge int

const (
	free      edge = iota
	letters        // a name, a word or an int
	ampersand      // the sign &, which with another one is &&
	angle          // behind: a > of a Box that is not the second half of >>; ahead: a sign whose bytes such a > would take
)

// form is a text, and what decides where it may stand.
type form struct {
	text        *rope
	size        int // in bytes
	need        int // how many levels of nesting it takes
	rank        int // how tightly what is outermost in it binds
	first, last edge
	bare        bool // a name with { behind it stands outside brackets, as in a cond it may not
	closed      bool // it begins with if, match or {, as a statement that goes on may not
}

// forms are the texts of one thing of which each is better than the others somewhere. None: there is no text.
type forms []form

// rope is a text in two pieces, or in one, so that what is deep is not copied at each level.
type rope struct {
	piece       string
	left, right *rope
}

func (r *rope) addTo(text *strings.Builder) {
	if r == nil {
		return
	}
	r.left.addTo(text)
	text.WriteString(r.piece)
	r.right.addTo(text)
}

// word tells a token, or several that are written without blanks.
func word(text string) forms {
	f := form{text: &rope{piece: text}, size: len(text)}
	switch text {
	case "":
	case "&":
		f.first, f.last = ampersand, ampersand
	case "=", "==", ">=", ">>":
		f.first = angle
	default:
		f.first, f.last = edgeOf(text[0]), edgeOf(text[len(text)-1])
	}
	return forms{f}
}

func edgeOf(c byte) edge {
	if 'a' <= c && c <= 'z' || 'A' <= c && c <= 'Z' || '0' <= c && c <= '9' || c == '_' {
		return letters
	}
	return free
}

// join tells how parts are written one behind the other.
func join(parts ...forms) forms {
	joined := word("")
	for _, part := range parts {
		var longer forms
		for _, a := range joined {
			for _, b := range part {
				longer = append(longer, a.before(b))
			}
		}
		joined = best(longer)
	}
	return joined
}

// list tells how elements are written with commas between.
func list[T any](elems []T, write func(T) forms) forms {
	told := word("")
	for i, elem := range elems {
		if i > 0 {
			told = join(told, word(","))
		}
		told = join(told, write(elem))
		if len(told) == 0 {
			break
		}
	}
	return told
}

// bracketed tells a list in brackets, which are left out where nothing stands in them.
func bracketed[T any](elems []T, write func(T) forms) forms {
	if len(elems) == 0 {
		return word("")
	}
	return join(word("("), list(elems, write), word(")"))
}

// before tells a form with another one behind it.
func (f form) before(g form) form {
	if f.size == 0 {
		return g
	}
	if g.size == 0 {
		return f
	}
	both := form{
		text:  &rope{left: f.text, right: g.text},
		size:  f.size + g.size,
		need:  max(f.need, g.need),
		first: f.first, last: g.last,
		bare:   f.bare || g.bare,
		closed: f.closed,
	}
	if f.last == g.first && f.last != free {
		both.text.piece = " "
		both.size++
	}
	return both
}

// best leaves out what no text can hold, and what another form serves as well.
func best(all forms) forms {
	var kept forms
	for _, f := range all {
		tooMuch := f.size > api.MaxText || f.need > api.MaxDeep
		if tooMuch || slices.ContainsFunc(kept, func(k form) bool { return k.serves(f) }) {
			continue
		}
		kept = append(slices.DeleteFunc(kept, f.serves), f)
	}
	return kept
}

// serves tells whether a form may stand wherever another one may, and makes no text longer there.
func (f form) serves(g form) bool {
	size := f.size + f.first.more(g.first) + f.last.more(g.last)
	return size <= g.size && f.need <= g.need && f.rank >= g.rank && (!f.bare || g.bare) && (!f.closed || g.closed)
}

// more tells how many blanks an edge may need where another one needs none.
func (e edge) more(other edge) int {
	if e == free || e == other {
		return 0
	}
	return 1
}

func (l forms) changed(change func(f *form)) forms {
	all := slices.Clone(l)
	for i := range all {
		change(&all[i])
	}
	return best(all)
}

func (l forms) only(fits func(f form) bool) forms {
	return slices.DeleteFunc(slices.Clone(l), func(f form) bool { return !fits(f) })
}

func (l forms) ranked(rank int) forms {
	return l.changed(func(f *form) { f.rank = rank })
}

// deeper tells forms one level of nesting further in.
func (l forms) deeper() forms {
	return l.changed(func(f *form) { f.need++ })
}

// enclosed tells forms one level further in, and within brackets there, where neither rank nor the rule of conds matters.
func (l forms) enclosed() forms {
	return l.changed(func(f *form) {
		f.need++
		f.rank, f.bare = 0, false
	})
}

// shortest tells the text of the shortest form, if there is one.
func (l forms) shortest() (string, bool) {
	if len(l) == 0 {
		return "", false
	}
	f := slices.MinFunc(l, func(a, b form) int { return a.size - b.size })
	var text strings.Builder
	f.text.addTo(&text)
	return text.String(), true
}
