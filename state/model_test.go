package state_test

import (
	"slices"
	"testing"

	"interlock/api"
	"interlock/ir"
	"interlock/state"
)

// history is a second account of a run: it keeps what was done, and works out all else from that, in the chapter's words.
type history struct {
	p    api.Program
	done []api.Event
	more []int // by how much each Bump of done let its atom grow
	pc   []int
	regs [][api.Regs]int
	trap bool
}

func fresh(p api.Program) *history {
	n := len(p.Threads)
	return &history{p: p, pc: make([]int, n), regs: make([][api.Regs]int, n)}
}

// count is how many events there were of such an instruction with such a thing.
func (h *history) count(op uint8, obj int) int {
	n := 0
	for _, e := range h.done {
		if e.Op == op && e.Obj == obj {
			n++
		}
	}
	return n
}

// last is the Value of the last event of such an instruction with such a thing.
func (h *history) last(op uint8, obj int) int {
	n := 0
	for _, e := range h.done {
		if e.Op == op && e.Obj == obj {
			n = e.Value
		}
	}
	return n
}

func (h *history) atom(x int) int {
	n := 0
	for at, e := range h.done {
		switch {
		case e.Obj != x:
		case e.Op == api.Write:
			n = e.Value
		case e.Op == api.Bump:
			n += h.more[at]
		}
	}
	return n
}

func (h *history) inside(x int) []int {
	var l []int
	for _, e := range h.done {
		switch {
		case e.Obj != x:
		case e.Op == api.Send:
			l = append(l, e.Value)
		case (e.Op == api.Recv || e.Op == api.Poll) && e.Mode == 1:
			l = l[1:]
		}
	}
	return l
}

func (h *history) group(x int) int {
	n := 0
	for _, e := range h.done {
		if e.Op == api.Grow && e.Obj == x {
			n += e.Value
		}
	}
	return n
}

func (h *history) locked(x int) bool { return h.count(api.Lock, x) > h.count(api.Unlock, x) }
func (h *history) read(x int) bool   { return h.count(api.RLock, x) > h.count(api.RUnlock, x) }
func (h *history) closed(x int) bool { return h.count(api.Close, x) > 0 }
func (h *history) began(x int) bool  { return h.count(api.Begin, x) > 0 }
func (h *history) over(x int) bool   { return h.count(api.End, x) > 0 }
func (h *history) on(k int) bool     { return k == 0 || h.count(api.Go, k) > 0 }

func (h *history) prints() []int {
	var l []int
	for _, e := range h.done {
		if e.Op == api.Print {
			l = append(l, e.Value)
		}
	}
	return l
}

func (h *history) ended(k int) bool { return h.pc[k] == len(h.p.Threads[k]) }

func (h *history) can(k int) bool {
	if k >= len(h.p.Threads) || !h.on(k) || h.ended(k) || h.trap {
		return false
	}
	i := h.p.Threads[k][h.pc[k]]
	free := map[uint8]func() bool{
		api.Lock:  func() bool { return !h.locked(i.A) && !h.read(i.A) },
		api.RLock: func() bool { return !h.locked(i.A) },
		api.Send:  func() bool { return h.closed(i.A) || len(h.inside(i.A)) < h.p.Chans[i.A] },
		api.Recv:  func() bool { return h.closed(i.B) || len(h.inside(i.B)) > 0 },
		api.Wait:  func() bool { return h.group(i.A) <= 0 },
		api.Begin: func() bool { return !h.began(i.B) || h.over(i.B) },
	}[i.Op]
	return free == nil || free()
}

// wrong says whether an instruction is a trap.
func (h *history) wrong(i api.Ins) bool {
	is := map[uint8]func() bool{
		api.Go:      func() bool { return h.on(i.A) },
		api.Unlock:  func() bool { return !h.locked(i.A) },
		api.RUnlock: func() bool { return !h.read(i.A) },
		api.Send:    func() bool { return h.closed(i.A) },
		api.Close:   func() bool { return h.closed(i.A) },
		api.Grow:    func() bool { return h.group(i.A)+i.B < 0 },
		api.End:     func() bool { return !h.began(i.A) || h.over(i.A) },
	}[i.Op]
	return is != nil && is()
}

// event is what thread k's instruction i tells.
func (h *history) event(k int, i api.Ins) api.Event {
	r := h.regs[k]
	e := api.Event{Thread: k, Pc: h.pc[k], Op: i.Op}
	switch i.Op {
	case api.Load:
		e.Obj, e.Value = i.B, h.last(api.Store, i.B)
	case api.Read, api.Bump:
		e.Obj, e.Value = i.B, h.atom(i.B)
	case api.Store, api.Write, api.Send:
		e.Obj, e.Value = i.A, r[i.B]
	case api.Print:
		e.Value = r[i.A]
	case api.Recv, api.Poll:
		e.Obj = i.B
		if l := h.inside(i.B); len(l) > 0 {
			e.Value, e.Mode = l[0], 1
		} else if h.closed(i.B) {
			e.Mode = 2
		}
	case api.Grow:
		e.Obj, e.Value = i.A, i.B
	case api.Begin:
		e.Obj = i.B
		if !h.began(i.B) {
			e.Mode = 1
		}
	case api.Go, api.Lock, api.Unlock, api.RLock, api.RUnlock, api.Close, api.Wait, api.End:
		e.Obj = i.A
	}
	return e
}

// registers are those of thread k, behind the instruction i, which told e.
func (h *history) registers(k int, i api.Ins, e api.Event) [api.Regs]int {
	r := h.regs[k]
	b, c := r[i.B&3], r[i.C&3]
	switch i.Op {
	case api.Const:
		r[i.A] = i.B
	case api.Move:
		r[i.A] = b
	case api.Add:
		r[i.A] = b + c
	case api.Sub:
		r[i.A] = b - c
	case api.Mul:
		r[i.A] = b * c
	case api.Less:
		r[i.A] = 0
		if b < c {
			r[i.A] = 1
		}
	case api.Load, api.Read, api.Bump, api.Recv, api.Poll:
		r[i.A] = e.Value
	case api.Begin:
		r[i.A] = e.Mode
	}
	if i.Op == api.Poll {
		r[i.C] = e.Mode & 1
	}
	return r
}

func (h *history) step(k int) (api.Event, bool) {
	if !h.can(k) {
		return api.Event{}, false
	}
	i := h.p.Threads[k][h.pc[k]]
	e := h.event(k, i)
	h.trap = h.wrong(i)
	h.pc[k]++
	if h.trap {
		return e, true
	}
	more := h.regs[k][i.C&3]
	switch {
	case i.Op == api.Jump:
		h.pc[k] = i.A
	case i.Op == api.Zero && h.regs[k][i.A] == 0:
		h.pc[k] = i.B
	}
	h.regs[k] = h.registers(k, i, e)
	h.done = append(h.done, e)
	h.more = append(h.more, more)
	return e, true
}

func (h *history) status() uint8 {
	if h.trap {
		return api.Trap
	}
	all := true
	for k := range h.pc {
		if h.can(k) {
			return api.Cut
		}
		all = all && (!h.on(k) || h.ended(k))
	}
	if all {
		return api.Done
	}
	return api.Stuck
}

func (h *history) seen() view {
	v := view{status: h.status(), prints: h.prints()}
	for k := range h.pc {
		v.can[k], v.on[k], v.pc[k], v.regs[k] = h.can(k), h.on(k), h.pc[k], h.regs[k]
	}
	for x := range h.p.Vars {
		v.vars[x] = h.last(api.Store, x)
	}
	return v
}

// sequence is a row of numbers that hangs on nothing but where it began.
type sequence uint64

// below is the next number, from 0 to n - 1.
func (s *sequence) below(n int) int {
	*s = *s*6364136223846793005 + 1442695040888963407
	return int(uint64(*s) >> 33 % uint64(n))
}

// instruction is one of a program of two of everything, with n threads, in code of size instructions; those that may be traps are fewer, for runs to be longer.
func (s *sequence) instruction(n, size int) api.Ins {
	op := uint8(s.below(api.Ops))
	switch op {
	case api.Unlock, api.RUnlock, api.End:
		if s.below(6) > 0 {
			op = api.Nop
		}
	}
	i := api.Ins{Op: op}
	_, many := ir.Name(op)
	for _, to := range []*int{&i.A, &i.B, &i.C}[:many] {
		*to = s.below(2)
	}
	switch op {
	case api.Const:
		i.B = s.below(5) - 2
	case api.Grow:
		i.B = s.below(6) - 1
	case api.Jump:
		i.A = s.below(size + 1)
	case api.Zero:
		i.B = s.below(size + 1)
	case api.Go:
		i.A = 1 + s.below(n-1)
	case api.Add, api.Sub, api.Mul, api.Less, api.Bump, api.Poll, api.Move:
		i.A = s.below(4)
	}
	return i
}

func (s *sequence) program() api.Program {
	p := api.Program{Vars: 2, Atoms: 2, Locks: 2, Chans: []int{1 + s.below(3), 1 + s.below(3)}, Groups: 2, Onces: 2}
	p.Threads = make([][]api.Ins, 2+s.below(5))
	for k := range p.Threads {
		code := make([]api.Ins, s.below(13))
		for at := range code {
			code[at] = s.instruction(len(p.Threads), len(code))
		}
		p.Threads[k] = code
	}
	for _, code := range p.Threads {
		if len(code) > 3 {
			s.pair(code)
		}
	}
	if len(p.Threads[0]) > 2 {
		p.Threads[0][0] = api.Ins{Op: api.Go, A: 1}
	}
	return p
}

// pair puts two instructions into code that belong together.
func (s *sequence) pair(code []api.Ins) {
	x, first := s.below(2), s.below(len(code)-1)
	two := [][2]api.Ins{
		{{Op: api.Lock, A: x}, {Op: api.Unlock, A: x}},
		{{Op: api.RLock, A: x}, {Op: api.RUnlock, A: x}},
		{{Op: api.Begin, A: 3, B: x}, {Op: api.End, A: x}},
		{{Op: api.Send, A: x, B: 1}, {Op: api.Recv, A: 2, B: x}},
		{{Op: api.Grow, A: x, B: 2}, {Op: api.Grow, A: x, B: -2}},
	}[s.below(5)]
	code[first] = two[0]
	code[first+1+s.below(len(code)-first-1)] = two[1]
}

// Long rows of picks come, step by step, to what the history says; among them is all that there is to come to.
func TestAgainstHistory(t *testing.T) {
	statuses := map[uint8]int{}
	ways := map[[2]int]int{}  // by Op and Mode
	traps := map[uint8]int{}  // by Op
	blocks := map[uint8]int{} // by Op
	q := sequence(1)
	for range 4000 {
		p := q.program()
		s, h := begins(t, p), fresh(p)
		for range 10 + q.below(60) {
			k := q.below(len(p.Threads) + 1)
			if k < len(p.Threads) && h.on(k) && !h.ended(k) && !h.trap && !h.can(k) {
				blocks[p.Threads[k][h.pc[k]].Op]++
			}
			want, must := h.step(k)
			got, is := s.Step(k)
			if got != want || is != must {
				t.Fatalf("%v: %v, %v, not %v, %v", p, got, is, want, must)
			}
			if now, then := seen(s), h.seen(); !now.same(then) {
				t.Fatalf("%v: %v, not %v", p, now, then)
			}
			if is && h.trap {
				traps[got.Op]++
			} else if is {
				ways[[2]int{int(got.Op), got.Mode}]++
			}
		}
		statuses[h.status()]++
	}
	// Beside one way of each instruction there are two more of Poll, and one more of Recv and of Begin.
	if len(statuses) != 4 || len(ways) != api.Ops+4 || len(traps) != 7 || len(blocks) != 6 {
		t.Errorf("not all was met: statuses %v, ways %v, traps %v, blocks %v", statuses, ways, traps, blocks)
	}
}

// part plays picks, and is what was told of each, and what can be seen then.
func part(s *state.State, picks []int) ([]api.Event, view) {
	var all []api.Event
	for _, k := range picks {
		e, _ := s.Step(k)
		all = append(all, e)
	}
	return all, seen(s)
}

// A copy does what the state would do, and neither is seen in the other, whichever goes first.
func TestCopies(t *testing.T) {
	q := sequence(2)
	picks := func(n int) []int {
		l := make([]int, q.below(40))
		for at := range l {
			l[at] = q.below(n)
		}
		return l
	}
	for range 3000 {
		p := q.program()
		n := len(p.Threads)
		first, left, right := picks(n), picks(n), picks(n)
		s, again := begins(t, p), begins(t, p)
		part(s, first)
		part(again, first)
		c := s.Copy()
		if !seen(c).same(seen(s)) {
			t.Fatalf("%v: the copy is not the same", p)
		}
		rows := [2][]int{left, right}
		both := [2]*state.State{s, c}
		f := q.below(2) // which of both goes first
		still := seen(both[1-f])
		ahead, there := part(both[f], rows[f])
		both[f].Set(0, 0, 12345)
		both[f].Set(n-1, 3, 54321)
		if !seen(both[1-f]).same(still) {
			t.Fatalf("%v: one is seen in the other", p)
		}
		behind, here := part(both[1-f], rows[1-f])
		for at, want := range [2][]api.Event{ahead, behind} {
			row := rows[(f+at)%2]
			got, v := part(again.Copy(), row)
			if !slices.Equal(got, want) || !v.same([2]view{there, here}[at]) {
				t.Fatalf("%v: behind %v, by %v: %v, not %v", p, first, row, got, want)
			}
		}
	}
}

// What two states that were copied have told since is not mixed, even where the list that both began with has room.
func TestCopiesTell(t *testing.T) {
	var code []api.Ins
	for range 30 {
		code = append(code, api.Ins{Op: api.Print, A: 0})
	}
	for shared := range 20 {
		s := begins(t, one(code...))
		var want []int
		for n := range shared {
			s.Set(0, 0, n)
			goes(t, s, 0)
			want = append(want, n)
		}
		c := s.Copy()
		d := c.Copy()
		for at, x := range []*state.State{s, c, d} {
			x.Set(0, 0, 100+at)
			goes(t, x, 0)
		}
		for at, x := range []*state.State{s, c, d} {
			if got := x.Prints(); !slices.Equal(got[:shared], want) || len(got) != shared+1 || got[shared] != 100+at {
				t.Errorf("%v: %v, and %d", got, want, 100+at)
			}
		}
	}
}

// The same steps come to the same, and those that are none change nothing.
func TestTheSameSteps(t *testing.T) {
	q := sequence(3)
	for range 1000 {
		p := q.program()
		s, again := begins(t, p), begins(t, p)
		var trace []api.Event
		var steps []int
		for range 60 {
			k := q.below(len(p.Threads)+3) - 1
			if !s.Can(k) {
				stays(t, s, k)
				continue
			}
			trace = append(trace, goes(t, s, k)...)
			steps = append(steps, k)
		}
		got, v := part(again, steps)
		if !slices.Equal(got, trace) || !v.same(seen(s)) {
			t.Fatalf("%v by %v: %v, not %v", p, steps, got, trace)
		}
	}
}
