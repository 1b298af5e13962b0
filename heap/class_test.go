package heap

import (
	"testing"

	"ferrule/api"
)

// P9.1

func TestClassTellsTheLeastThatHasTheWords(t *testing.T) {
	for class, c := range written {
		for words := c.least; words <= c.most; words++ {
			if k, size, blocks, e := Class(words); k != class || size != c.most || blocks != c.blocks || e != api.OK {
				t.Errorf("Class(%d) = %d, %d, %d, %d, not %d, %d, %d, 0", words, k, size, blocks, int(e), class, c.most, c.blocks)
			}
		}
	}
}

func TestClassRefusesOtherWords(t *testing.T) {
	for _, words := range wrongWords {
		if k, size, blocks, e := Class(words); k != 0 || size != 0 || blocks != 0 || e != api.ErrArg {
			t.Errorf("Class(%d) = %d, %d, %d, %d, not 0, 0, 0, 2", words, k, size, blocks, int(e))
		}
	}
}

func TestClassesFillTheHeap(t *testing.T) {
	if Base != written[0].first || Base+Size != written[3].behind {
		t.Errorf("the heap is from %d to %d", Base, Base+Size)
	}
	for class, c := range written {
		if at(class, c.blocks-1) != c.last || at(class, c.blocks) != c.behind {
			t.Errorf("the class %d is not written right", class)
		}
		if class > 0 && written[class-1].behind != c.first {
			t.Errorf("the class %d is not just behind the one ahead of it", class)
		}
	}
}
