package lower

import "ferrule/api"

// compare lets ends ask themselves what comparisons right ahead of them tell.
func (m *lowering) compare() {
	words := newLater(&m.out)
	for k := range m.out.Blocks {
		for m.asksItself(k, words) {
		}
	}
}

// asksItself lets a block's end ask what its word was asked for right ahead, if nothing else needs that word; false: it is not so. (Then it may still be a word that was made right ahead, where one was held against 0.)
func (m *lowering) asksItself(block int, words *later) bool {
	b := &m.out.Blocks[block]
	last := len(b.List) - 1
	if last < 0 || b.Term.Kind != api.TeIf || b.Term.Text != "ne" || b.Term.B != api.RegZero {
		return false
	}
	made := b.List[last]
	asks := m.asked(made)
	if asks == "" || b.Term.A != made.D || words.behind(block, made.D) {
		return false
	}
	b.List = b.List[:last]
	b.Term.A, b.Term.B, b.Term.Text = made.A, m.second(b, made), asks
	return true
}

// asked tells which comparison holds where the word is not 0 that an instruction makes; "": none does.
func (m *lowering) asked(in api.Low) string {
	if in.Op == api.LoBin || in.Op == api.LoImm {
		return m.names[in.Text].asks
	}
	return ""
}

// second is what the second operand of an instruction is read of at a block's end.
func (m *lowering) second(b *api.LowBlock, in api.Low) int {
	switch {
	case in.Op == api.LoBin:
		return in.B
	case in.N == 0:
		return api.RegZero
	}
	reg := m.fresh()
	b.List = append(b.List, api.Low{Op: api.LoImm, D: reg, A: api.RegZero, Text: "add", N: in.N})
	return reg
}
