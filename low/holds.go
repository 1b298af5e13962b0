package low

// comparison is what is asked of two words, and what must be answered for it to hold: each question serves two, as what is not below is the other one's.
type comparison struct {
	asks func(a, b int32) bool
	yes  bool
}

// named tells the comparison of a name, if there is one.
func named(text string) (comparison, bool) {
	switch text {
	case "eq":
		return comparison{asks: alike, yes: true}, true
	case "ne":
		return comparison{asks: alike}, true
	case "lt":
		return comparison{asks: below, yes: true}, true
	case "ge":
		return comparison{asks: below}, true
	case "ltu":
		return comparison{asks: belowFrom0, yes: true}, true
	case "geu":
		return comparison{asks: belowFrom0}, true
	}
	return comparison{}, false
}

func (c comparison) holds(a, b int32) bool { return c.asks(a, b) == c.yes }

func alike(a, b int32) bool { return a == b }

func below(a, b int32) bool { return a < b }

// belowFrom0 takes both words from 0 on.
func belowFrom0(a, b int32) bool { return uint32(a) < uint32(b) }
