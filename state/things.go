package state

import "interlock/api"

// What changes a thing answers whether it may be; if not, it is a trap, and the thing is as it was.

// thread is where a thread is.
type thread struct {
	on   bool
	pc   int
	regs [api.Regs]int
}

func (t *thread) begin() bool {
	was := t.on
	t.on = true
	return !was
}

// reckon does what is done with registers alone.
func (t *thread) reckon(i api.Ins) {
	r := &t.regs
	switch i.Op {
	case api.Const:
		r[i.A] = i.B
	case api.Move:
		r[i.A] = r[i.B]
	case api.Add:
		r[i.A] = r[i.B] + r[i.C]
	case api.Sub:
		r[i.A] = r[i.B] - r[i.C]
	case api.Mul:
		r[i.A] = r[i.B] * r[i.C]
	case api.Less:
		r[i.A] = number(r[i.B] < r[i.C])
	}
}

// turn goes where a jump leads.
func (t *thread) turn(i api.Ins) {
	switch {
	case i.Op == api.Jump:
		t.pc = i.A
	case t.regs[i.A] == 0:
		t.pc = i.B
	}
}

// lock is locked, or has readers, or is free.
type lock struct {
	locked  bool
	readers int
}

func (l *lock) free() bool { return !l.locked && l.readers == 0 }

// change does what is done with a lock; that it is not blocked was asked already.
func (l *lock) change(op uint8) bool {
	switch op {
	case api.Lock:
		l.locked = true
	case api.RLock:
		l.readers++
	case api.Unlock:
		if !l.locked {
			return false
		}
		l.locked = false
	case api.RUnlock:
		if l.readers == 0 {
			return false
		}
		l.readers--
	}
	return true
}

// How a number came out of a channel: the Mode of Recv and Poll.
const (
	nothing = iota
	came
	over // it is closed, and there are no more
)

// channel is numbers on their way, the first of them first.
type channel struct {
	numbers [api.MaxCap]int
	many    int // how many there are
	most    int // how many there may be
	closed  bool
}

// full says whether one who sends must wait.
func (c *channel) full() bool { return c.many == c.most && !c.closed }

// dry says whether one who receives must wait.
func (c *channel) dry() bool { return c.many == 0 && !c.closed }

// put is asked of no channel that is full.
func (c *channel) put(n int) bool {
	if c.closed {
		return false
	}
	c.numbers[c.many] = n
	c.many++
	return true
}

// take is the first number, and how it came.
func (c *channel) take() (int, int) {
	switch {
	case c.many > 0:
		n := c.numbers[0]
		copy(c.numbers[:], c.numbers[1:c.many])
		c.many--
		return n, came
	case c.closed:
		return 0, over
	}
	return 0, nothing
}

func (c *channel) close() bool {
	was := c.closed
	c.closed = true
	return !was
}

// group is how much is yet to be waited for: never below 0.
type group int

func (g *group) grow(n int) bool {
	then := *g + group(n)
	if then < 0 {
		return false
	}
	*g = then
	return true
}

// once is how far what is to be done once has come.
type once uint8

const (
	fresh once = iota
	begun
	ended
)

// begin, which is never a trap, answers whether it is the first to do it.
func (o *once) begin() bool {
	if *o != fresh {
		return false
	}
	*o = begun
	return true
}

func (o *once) end() bool {
	if *o != begun {
		return false
	}
	*o = ended
	return true
}
