package asm_test

import (
	"maps"
	"math"
	"math/rand"
	"slices"
	"strconv"
	"testing"

	"ferrule/api"
)

// ops are the six branches.
func ops() []string { return slices.Sorted(maps.Keys(opposites())) }

// lineByChance makes one of any kind, with one of so many labels.
func lineByChance(r *rand.Rand, labels, pads int) api.Asm {
	name := strconv.Itoa(r.Intn(labels))
	switch r.Intn(6) {
	case 0:
		return do(api.Insn{Op: "addi", Rd: r.Intn(32), Rs1: r.Intn(32), Imm: r.Intn(4096) - 2048})
	case 1:
		return jump(r.Intn(32), name)
	case 2:
		return pad(r.Intn(pads+3) - 2)
	}
	return branch(ops()[r.Intn(6)], r.Intn(32), r.Intn(32), name)
}

// linesByChance makes lines with so many labels, each once.
func linesByChance(r *rand.Rand, many, labels, pads int) []api.Asm {
	var l []api.Asm
	for range many {
		l = append(l, lineByChance(r, labels, pads))
	}
	for k := range labels {
		l = slices.Insert(l, r.Intn(len(l)+1), label(strconv.Itoa(k)))
	}
	return l
}

// P23.1, P23.2, P23.3: lines made by chance, few and many, with labels as near and as far as they happen to be.
func TestChance(t *testing.T) {
	r := rand.New(rand.NewSource(231))
	long, short, big := 0, 0, 0
	for range 400 {
		many := 1 + r.Intn(200)
		l := linesByChance(r, many, 1+r.Intn(20), 1+r.Intn(2+300000/many))
		p, e := byWords(t, l)
		if e != api.OK {
			big++
		}
		longHere, shortHere := lengths(l, p)
		long, short = long+longHere, short+shortHere
	}
	if long < 1000 || short < 1000 || big < 20 || big > 200 {
		t.Error(long, short, big)
	}
}

// lengths counts the long branches, and the short ones.
func lengths(l []api.Asm, p telling) (long, short int) {
	for k := range p.long {
		long += count(p.long[k])
		short += count(l[k].Kind == api.AsBranch && !p.long[k])
	}
	return long, short
}

// fillByChance tells lines of words that are made by chance, in one or several.
func fillByChance(r *rand.Rand) func(words int) []api.Asm {
	return func(words int) []api.Asm {
		var l []api.Asm
		for words > 0 {
			n := 1 + r.Intn(words)
			switch r.Intn(4) {
			case 0:
				l, n = append(l, do(api.Insn{Op: "xor", Rd: r.Intn(32)})), 1
			case 1:
				l, n = append(l, pad(-r.Intn(3))), 0
			default:
				l = append(l, pad(n))
			}
			words -= n
		}
		return l
	}
}

// marksByChance makes branches of which many just fit, or nearly so.
func marksByChance(r *rand.Rand, words, many, slack int) []mark {
	var marks []mark
	for _, at := range r.Perm(words)[:many] {
		way := 1023 - r.Intn(slack+1) + r.Intn(40)/39*2
		if r.Intn(2) == 0 {
			way = -way - 1
		}
		if to := at + way; to >= 0 && to <= words {
			marks = append(marks, mark{at, to})
		}
	}
	return marks
}

// P23.3: branches made by chance that just fit, so that one's growth makes others grow.
func TestGrowthByChance(t *testing.T) {
	r := rand.New(rand.NewSource(232))
	long, short, rounds, all, none := 0, 0, 0, 0, 0
	for n := range 300 {
		words := 1100 + r.Intn(8000)
		marks := marksByChance(r, words, 2+r.Intn(300), []int{0, 1, 2, 5, 10, 30, 100}[n%7])
		l := fromWords(words, marks, fillByChance(r))
		p := taken(t, l)
		rounds = max(rounds, p.rounds)
		longHere, shortHere := lengths(l, p)
		long, short = long+longHere, short+shortHere
		all, none = all+count(shortHere == 0), none+count(longHere == 0)
	}
	if long < 2000 || short < 2000 || rounds < 10 || all > 200 || none > 200 {
		t.Error(long, short, rounds, all, none)
	}
}

// spoilt is lines of which some are changed by chance.
func spoilt(r *rand.Rand, l []api.Asm) []api.Asm {
	numbers := []int{0, 0, 1, 2, 3, 4, 5, 6, 31, 32, -1, 2048, 1 << 19, 1 << 20, 1<<20 + 1, math.MinInt, math.MaxInt}
	number := func() int { return numbers[r.Intn(len(numbers))] }
	names := []string{"0", "1", "2", "none", ""}
	for range 1 + r.Intn(3) {
		line := &l[r.Intn(len(l))]
		switch r.Intn(12) {
		case 0:
			line.Kind = number()
		case 1, 2, 3:
			line.Label = names[r.Intn(len(names))]
		case 4:
			line.N = number()
		case 5:
			line.Insn.Op = []string{"", "beq", "jal", "addi", "add", "nop", "bgt"}[r.Intn(7)]
		case 6:
			line.Insn.Rd = number()
		case 7:
			line.Insn.Rs1 = number()
		case 8:
			line.Insn.Rs2 = number()
		case 9:
			line.Insn.Imm = number()
		case 10:
			line.Kind = 1 + r.Intn(5)
		case 11:
			*line = pad(16000)
		}
	}
	return l
}

// P23.1: lines made and changed by chance, with all faults and none.
func TestWrongByChance(t *testing.T) {
	r := rand.New(rand.NewSource(233))
	seen := map[api.Errno]int{}
	for range 8000 {
		_, e := byWords(t, spoilt(r, linesByChance(r, 1+r.Intn(12), 1+r.Intn(3), 400)))
		seen[e]++
	}
	for _, e := range []api.Errno{api.OK, api.ErrForm, api.ErrLabel, api.ErrIllegal, api.ErrImage} {
		if seen[e] < 80 {
			t.Error(seen)
		}
	}
	if len(seen) != 5 {
		t.Error(seen)
	}
}
