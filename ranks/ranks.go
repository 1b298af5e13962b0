// Package ranks tells how tightly signs between operands bind, after the grammar of shared/doc/03-parse.md, to those that read and that write it.
package ranks

// The ranks of signs, from those that bind least on; of comparisons there is one at most.
const (
	First   = 1
	Compare = 3
	Last    = 9
)

// Of tells a sign's rank; 0, if it stands between no operands.
func Of(sign string) int {
	switch sign {
	case "||":
		return First
	case "&&":
		return 2
	case "==", "!=", "<", "<=", ">", ">=":
		return Compare
	case "|":
		return 4
	case "^":
		return 5
	case "&":
		return 6
	case "<<", ">>":
		return 7
	case "+", "-":
		return 8
	case "*", "/", "%":
		return Last
	}
	return 0
}
