package frame

import (
	"maps"
	"slices"

	"ferrule/api"
	"ferrule/needs"
)

// mostCleared is how many words of a frame are made 0 when a call begins. Where more might be read ahead of being stored, they stay as they are: what lower tells reads no such word to any end, and a call may not take longer than its few steps let it (P26.4).
const mostCleared = 32

// needed are the registers, and the words of the frame, whose first value a function may read: nothing sets them on some way ahead of that.
type needed struct{ regs, words []int }

func neededOf(f *api.LowFunc) needed {
	all := withWords(f)
	n := needs.Of(&all)
	var out needed
	for _, reg := range slices.Sorted(maps.Keys(n.Asked)) {
		note := func(block int) {
			switch {
			case block != 0:
			case reg < f.Regs:
				out.regs = append(out.regs, reg)
			default:
				out.words = append(out.words, reg-f.Regs)
			}
		}
		n.Walk(reg, note, func(int) {})
	}
	if len(out.words) > mostCleared {
		out.words = nil
	}
	return out
}

// withWords is a function in which the words of the frame are registers, behind its own. Whoever is told where the frame is, may read all of them.
func withWords(f *api.LowFunc) api.LowFunc {
	out := api.LowFunc{Regs: f.Regs + f.Frame, Params: f.Params}
	var words []int
	for k := range f.Frame {
		words = append(words, f.Regs+k)
	}
	for k := range f.Blocks {
		b := api.LowBlock{Term: f.Blocks[k].Term}
		for _, in := range f.Blocks[k].List {
			b.List = append(b.List, withoutFrame(in, words))
		}
		out.Blocks = append(out.Blocks, b)
	}
	return out
}

// withoutFrame is an instruction in which registers stand for the words of the frame.
func withoutFrame(in api.Low, words []int) api.Low {
	if in.A != api.RegFrame {
		return in
	}
	isWord := in.N >= 0 && in.N%wordBytes == 0 && in.N/wordBytes < len(words)
	switch {
	case in.Op == api.LoImm:
		return api.Low{Op: api.LoCall, Args: words, Dsts: []int{in.D}}
	case in.Op == api.LoLw && isWord:
		return api.Low{Op: api.LoMv, D: in.D, A: words[in.N/wordBytes]}
	case in.Op == api.LoSw && isWord:
		return api.Low{Op: api.LoMv, D: words[in.N/wordBytes], A: in.B}
	}
	return in
}
