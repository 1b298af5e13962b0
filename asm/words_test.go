package asm_test

import (
	"maps"
	"slices"
	"strconv"

	"ferrule/api"
)

// mark is a branch and its label, by the words at which they would stand, if all branches were short.
type mark struct{ at, to int }

// fromWords makes lines of so many words with these branches, no two of which are at one word; fill makes the lines of the words in between.
func fromWords(words int, marks []mark, fill func(words int) []api.Asm) []api.Asm {
	ways, labels := map[int]int{}, map[int]string{}
	for _, m := range marks {
		ways[m.at] = m.to
		labels[m.to] = "w" + strconv.Itoa(m.to)
	}
	var l []api.Asm
	ops := slices.Sorted(maps.Keys(opposites()))
	free := 0
	for at := range words + 1 {
		name, isLabel := labels[at]
		to, isBranch := ways[at]
		if isLabel || isBranch || at == words {
			l = append(l, fill(free)...)
			free = 0
		}
		if isLabel {
			l = append(l, label(name))
		}
		if isBranch {
			l = append(l, branch(ops[at%6], at%32, at/7%32, labels[to]))
		} else {
			free++
		}
	}
	return l
}

// padded makes one line of words.
func padded(words int) []api.Asm { return []api.Asm{pad(words)} }

// dominoes are so many branches, so many words from one to the next, each of which just fits as long as one of those on its way is short; the last one (the first, if they go back) fits, or not.
func dominoes(many, step int, back, falls bool) []api.Asm {
	near := 1023 // words that a short branch goes
	if back {
		near++
	}
	var marks []mark
	for k := range many {
		// So many branches are on the way over one word more each time.
		over := func(words int) int { return min((words-1)/step, k) }
		way := near + count(falls)
		if k > 0 {
			for way = 1; way+over(way) <= near; {
				way++
			}
		}
		marks = append(marks, mark{k * step, k*step - way})
	}
	if !back {
		end := (many - 1) * step
		for k, m := range marks {
			marks[k] = mark{end - m.at, end - m.to}
		}
		return fromWords(end+near+2, marks, padded)
	}
	for k := range marks {
		marks[k].at += near + 1
		marks[k].to += near + 1
	}
	return fromWords((many-1)*step+near+2, marks, padded)
}
