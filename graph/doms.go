package graph

// turns is what a walk came to, by turns: the block that is entered first has the turn 0, and so on.
// What is passed on every way is found from the last turn on, after Lengauer and Tarjan: to hold all ways against each other would take too long where the blocks are many.
type turns struct {
	block  []int   // the block of each turn
	parent []int   // the turn that it was walked to from; of the turn 0 itself
	from   [][]int // the turns that go to it
	top    []int   // the least turn with a way to it on which all between are greater than it, as far as is known
	up     []int   // a turn above it that it is tied to; -1: it was not done yet
	best   []int   // from it up to just below its up, the one with the least top
}

// turnsOf walks, and tells the turns.
func turnsOf(n int, to [][]int) *turns {
	t := &turns{}
	turnOf := make([]int, n)
	walk(n, to, func(block, from int) {
		turn := len(t.block)
		turnOf[block] = turn
		t.block = append(t.block, block)
		t.parent = append(t.parent, turnOf[max(from, 0)])
		t.top = append(t.top, turn)
		t.up = append(t.up, -1)
		t.best = append(t.best, turn)
	}, func(int) {})
	t.from = make([][]int, len(t.block))
	for turn := range len(t.block) {
		for _, next := range goesTo(to, t.block[turn]) {
			if isBlock(n, next) {
				t.from[turnOf[next]] = append(t.from[turnOf[next]], turn)
			}
		}
	}
	return t
}

// doms tells of each turn but 0 the nearest one that is passed on every way to it.
func (t *turns) doms() []int {
	doms := make([]int, len(t.block))
	waiting := make([][]int, len(t.block)) // of each turn, those that have it as their top
	for turn := len(doms) - 1; turn > 0; turn-- {
		for _, from := range t.from[turn] {
			t.top[turn] = min(t.top[turn], t.top[t.bestOf(from)])
		}
		waiting[t.top[turn]] = append(waiting[t.top[turn]], turn)
		parent := t.parent[turn]
		t.up[turn] = parent
		for _, w := range waiting[parent] {
			doms[w] = t.bestOf(w)
		}
		waiting[parent] = nil
	}
	for turn := range len(doms) {
		if best := doms[turn]; t.top[best] < t.top[turn] {
			doms[turn] = doms[best] // one from further above comes in at best, so both have the same; best's turn is less, so its own is known
		} else {
			doms[turn] = t.top[turn]
		}
	}
	return doms
}

// bestOf tells which one has the least top, of a turn and those above it that were done.
// Each that it goes past is then tied to the last one, so that the way is not gone again.
func (t *turns) bestOf(turn int) int {
	if t.up[turn] < 0 {
		return turn
	}
	var path []int
	for ; t.up[t.up[turn]] >= 0; turn = t.up[turn] {
		path = append(path, turn)
	}
	for len(path) > 0 {
		turn = path[len(path)-1]
		path = path[:len(path)-1]
		above := t.up[turn]
		if t.top[t.best[above]] < t.top[t.best[turn]] {
			t.best[turn] = t.best[above]
		}
		t.up[turn] = t.up[above]
	}
	return t.best[turn]
}
