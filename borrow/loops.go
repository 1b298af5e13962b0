package borrow

import "ferrule/api"

// loop is one that is gone through.
type loop struct {
	head *way // what is ahead of each of its turns
	next *way // where those ways come together that go on with its next turn
	left *way // where those do that leave it
}

func newLoop(head *way) *loop { return &loop{head, noWay(), noWay()} }

// rounds goes through a loop's turn. What its turns move away is ahead of them, too: that is learned when telling has not begun.
func (c *checker) rounds(x *api.Expr) {
	n := c.begun
	c.begun++
	if !c.telling {
		c.turns = append(c.turns, firstWay())
	}
	from, around := c.now, c.loop
	head := from.branch()
	head.follow(c.turns[n])
	inner := newLoop(head)
	c.now, c.loop = head.branch(), inner
	c.turn(x)
	if !c.telling {
		c.turns[n] = inner.next.movedOn()
		head.follow(c.turns[n])
	}
	c.now, c.loop = from, around
	c.now.follow(head)
	c.now.follow(inner.left)
}

func (c *checker) turn(x *api.Expr) {
	if x.Kind == api.ExWhile {
		c.run(&x.Kids[0])
		c.leave()
	}
	c.run(&x.Kids[len(x.Kids)-1])
	c.goOn()
}

// leave is where the loop may be left.
func (c *checker) leave() { c.loop.left = meet(c.loop.left, c.now.since(c.loop.head)) }

// goOn is where the loop may go on with its next turn.
func (c *checker) goOn() { c.loop.next = meet(c.loop.next, c.now.since(c.loop.head)) }
