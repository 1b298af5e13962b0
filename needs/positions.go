package needs

import "ferrule/api"

// EachPosition goes over a function's registers with positions where they are used or needed: each one's least and greatest position are among them, what lies in between is mostly left out.
func EachPosition(f *api.LowFunc, use func(reg, at int)) {
	EachOf(f.Params, func(reg *int) { use(*reg, 0) })
	begins, ends := eachUse(f, use)
	n := Of(f)
	for reg := range n.Asked {
		n.Walk(reg, func(block int) { use(reg, begins[block]) }, func(block int) { use(reg, ends[block]) })
	}
}

// eachUse goes over what is read or set, and tells where blocks begin and end: positions are counted block by block, a block's beginning, its instructions, its end.
func eachUse(f *api.LowFunc, use func(reg, at int)) (begins, ends []int) {
	at := 0
	here := func(reg *int) { use(*reg, at) }
	for k := range f.Blocks {
		b := &f.Blocks[k]
		begins = append(begins, at)
		for i := range b.List {
			at++
			EachRead(&b.List[i], here)
			EachSet(&b.List[i], here)
		}
		at++
		EachEndRead(&b.Term, here)
		ends = append(ends, at)
		at++
	}
	return begins, ends
}
