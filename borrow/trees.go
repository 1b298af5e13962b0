package borrow

import (
	"ferrule/api"
	"ferrule/types"
)

// checker goes through a function's trees as they are run: at first to learn what loops move away in a turn, and then to tell what is wrong.
type checker struct {
	items   []api.Item
	telling bool
	first   fault // that was told
	now     *way
	loop    *loop
	begun   int    // how many loops were
	turns   []*way // what each loop, in the order in which they begin, moves away till its next turn
}

func checkFunction(l []api.Item, body *api.Expr) fault {
	c := &checker{items: l}
	c.function(body)
	c.telling = true
	c.function(body)
	return c.first
}

func (c *checker) function(body *api.Expr) {
	c.begun, c.now = 0, firstWay()
	// A break or continue that stands in no loop goes on nowhere.
	c.loop = newLoop(c.now)
	c.run(body)
}

// tell keeps a fault, if it is the first one.
func (c *checker) tell(at int, e api.Errno) {
	if c.telling && c.first == (fault{}) {
		c.first = fault{at, e}
	}
}

// run goes through a tree of which the value is used, or a statement.
func (c *checker) run(x *api.Expr) {
	switch x.Kind {
	case api.ExVar, api.ExField, api.ExIndex, api.ExDeref:
		c.placeValue(x)
	case api.ExBin:
		c.binary(x)
	case api.ExCall:
		c.call(x)
	case api.ExIf:
		c.choice(x)
	case api.ExMatch:
		c.match(x)
	case api.ExWhile, api.ExLoop:
		c.rounds(x)
	case api.ExBreak:
		c.leave()
		c.now.end()
	case api.ExNext:
		c.goOn()
		c.now.end()
	case api.ExReturn:
		c.kids(x)
		c.now.end()
	case api.ExLet:
		c.kids(x)
		c.now.note(x.Num/2, given)
	case api.ExAssign:
		c.assign(x)
	default:
		c.kids(x)
	}
}

func (c *checker) kids(x *api.Expr) {
	for k := range x.Kids {
		c.run(&x.Kids[k])
	}
}

func (c *checker) placeValue(x *api.Expr) {
	switch copied := types.Copy(c.items, x.Type); {
	case copied:
		c.look(x)
	case x.Kind == api.ExVar:
		c.look(x)
		c.now.note(x.Num, moved)
	default:
		c.tell(x.At, api.ErrMove)
	}
}

// look goes through a place that is used, but not moved away.
func (c *checker) look(x *api.Expr) {
	trees := outwards(x)
	root := trees[0]
	if c.now.isMoved(root.Num) {
		c.tell(root.At, api.ErrMoved)
	}
	for _, at := range trees {
		if at.Kind != api.ExIndex {
			continue
		}
		index := &at.Kids[1]
		c.run(index)
		if c.telling && c.changes(index, root.Num) {
			c.tell(index.At, api.ErrShared)
		}
	}
}

func (c *checker) assign(x *api.Expr) {
	to, value := &x.Kids[0], &x.Kids[1]
	c.run(value)
	if to.Kind == api.ExVar {
		c.now.note(to.Num, given)
	} else {
		c.look(to)
	}
}

func (c *checker) binary(x *api.Expr) {
	if x.Text != "&&" && x.Text != "||" {
		c.kids(x)
		return
	}
	c.run(&x.Kids[0])
	c.either(func() {}, func() { c.run(&x.Kids[1]) })
}

func (c *checker) choice(x *api.Expr) {
	c.run(&x.Kids[0])
	c.either(func() { c.run(&x.Kids[1]) }, func() {
		if len(x.Kids) > 2 {
			c.run(&x.Kids[2])
		}
	})
}

func (c *checker) match(x *api.Expr) {
	c.run(&x.Kids[0])
	var arms []func()
	for k := range x.Kids[1:] {
		arms = append(arms, func() { c.arm(&x.Kids[1+k]) })
	}
	c.either(arms...)
}

func (c *checker) arm(x *api.Expr) {
	for _, bind := range x.Kids[0].Kids {
		c.now.note(bind.Num, given)
	}
	c.run(&x.Kids[1])
}

// either goes through ways of which one is run, and on where they come together.
func (c *checker) either(ways ...func()) {
	from, behind := c.now, noWay()
	for _, run := range ways {
		c.now = from.branch()
		run()
		behind = meet(behind, c.now)
	}
	c.now = from
	c.now.follow(behind)
}
