package asm

import "ferrule/api"

// How far a short branch goes.
const (
	leastWay = -4096
	mostWay  = 4094
)

// placesOf tells where each line stands, and what is behind the last one, if these lines are long branches.
func placesOf(l []api.Asm, long []bool) []int {
	at := make([]int, len(l)+1)
	for k, line := range l {
		at[k+1] = at[k] + shortBytes(line)
		if long[k] {
			at[k+1] += wordBytes
		}
	}
	return at
}

// shortBytes tells how many bytes a line has, if it is no long branch.
func shortBytes(line api.Asm) int {
	switch line.Kind {
	case api.AsLabel:
		return 0
	case api.AsPad:
		return wordBytes * max(line.N, 0)
	}
	return wordBytes
}

// branch is a line that goes somewhere: how far, while all are short, and how many of the branches stand ahead of its label. With these alone the other lines need not be gone over each time that some grow.
type branch struct{ line, way, ahead int }

// branchesOf tells those of lines, and how many bytes all lines have, while all are short.
func branchesOf(l []api.Asm, labels map[string]int) ([]branch, int) {
	at := placesOf(l, make([]bool, len(l)))
	ahead := make([]int, len(l)+1)
	for k, line := range l {
		ahead[k+1] = ahead[k]
		if line.Kind == api.AsBranch {
			ahead[k+1]++
		}
	}
	branches := make([]branch, 0, ahead[len(l)])
	for k, line := range l {
		if line.Kind == api.AsBranch {
			goal := labels[line.Label]
			branches = append(branches, branch{k, at[goal] - at[k], ahead[goal]})
		}
	}
	return branches, at[len(l)]
}

// longOnes tells which lines are branches that are long. It is left off where the image is too big, as it only grows.
func longOnes(l []api.Asm, labels map[string]int) []bool {
	branches, size := branchesOf(l, labels)
	long := make([]bool, len(l))
	grown := make([]int, len(branches)+1) // by how many bytes those ahead of each branch grew, and all
	way := func(k int) int { return branches[k].way + grown[branches[k].ahead] - grown[k] }
	isTooFar := func(k int) bool {
		return !long[branches[k].line] && (way(k) < leastWay || way(k) > mostWay)
	}
growing:
	for size+grown[len(branches)] <= api.MaxCode {
		for first := range branches {
			if isTooFar(first) {
				lengthen(branches, first, long, isTooFar)
				sumUp(branches, long, grown)
				continue growing
			}
		}
		break
	}
	return long
}

// lengthen makes all branches from the first one on long that are too far, at one time: grown stays as it is meanwhile.
func lengthen(branches []branch, first int, long []bool, isTooFar func(k int) bool) {
	for k := first; k < len(branches); k++ {
		if isTooFar(k) {
			long[branches[k].line] = true
		}
	}
}

// sumUp tells in grown by how many bytes the branches ahead of each one grew.
func sumUp(branches []branch, long []bool, grown []int) {
	for k, b := range branches {
		grown[k+1] = grown[k]
		if long[b.line] {
			grown[k+1] += wordBytes
		}
	}
}
