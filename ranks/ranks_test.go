package ranks

import (
	"strings"
	"testing"
)

// The ranks of the grammar in their order.
func TestOfTellsRanks(t *testing.T) {
	for i, signs := range []string{"||", "&&", "== != < <= > >=", "|", "^", "&", "<< >>", "+ -", "* / %"} {
		for _, sign := range strings.Fields(signs) {
			if got := Of(sign); got != First+i {
				t.Errorf("Of(%q) = %d, not %d", sign, got, First+i)
			}
		}
	}
	if Of("<") != Compare || Of("*") != Last {
		t.Errorf("< and * have the ranks %d and %d, not %d and %d", Of("<"), Of("*"), Compare, Last)
	}
}

func TestOfTellsNoOtherSigns(t *testing.T) {
	for _, sign := range []string{"", "=", "!", "->", "=>", "::", "as", "(", ".", ",", "+ ", "++", "a", "1"} {
		if got := Of(sign); got != 0 {
			t.Errorf("Of(%q) = %d, not 0", sign, got)
		}
	}
}
