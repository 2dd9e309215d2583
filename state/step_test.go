package state_test

import (
	"math"
	"slices"
	"testing"

	"interlock/api"
)

const (
	least = math.MinInt64
	most  = math.MaxInt64
)

// Each instruction, of a thread whose registers are regs ahead of it: what is told, and what the registers are then.
func TestOneInstruction(t *testing.T) {
	regs := [4]int{3, 0, -7, 1000}
	for _, c := range []struct {
		i    api.Ins
		e    api.Event
		regs [4]int
		pc   int
	}{
		{api.Ins{Op: api.Nop}, api.Event{}, regs, 1},
		{api.Ins{Op: api.Const, A: 1, B: -9}, api.Event{}, [4]int{3, -9, -7, 1000}, 1},
		{api.Ins{Op: api.Const, A: 3, B: least}, api.Event{}, [4]int{3, 0, -7, least}, 1},
		{api.Ins{Op: api.Const, A: 0, B: most}, api.Event{}, [4]int{most, 0, -7, 1000}, 1},
		{api.Ins{Op: api.Move, A: 1, B: 3}, api.Event{}, [4]int{3, 1000, -7, 1000}, 1},
		{api.Ins{Op: api.Move, A: 2, B: 2}, api.Event{}, regs, 1},
		{api.Ins{Op: api.Add, A: 1, B: 0, C: 2}, api.Event{}, [4]int{3, -4, -7, 1000}, 1},
		{api.Ins{Op: api.Add, A: 0, B: 0, C: 0}, api.Event{}, [4]int{6, 0, -7, 1000}, 1},
		{api.Ins{Op: api.Sub, A: 1, B: 0, C: 2}, api.Event{}, [4]int{3, 10, -7, 1000}, 1},
		{api.Ins{Op: api.Sub, A: 3, B: 3, C: 0}, api.Event{}, [4]int{3, 0, -7, 997}, 1},
		{api.Ins{Op: api.Mul, A: 1, B: 0, C: 2}, api.Event{}, [4]int{3, -21, -7, 1000}, 1},
		{api.Ins{Op: api.Less, A: 1, B: 2, C: 0}, api.Event{}, [4]int{3, 1, -7, 1000}, 1},
		{api.Ins{Op: api.Less, A: 3, B: 0, C: 2}, api.Event{}, [4]int{3, 0, -7, 0}, 1},
		{api.Ins{Op: api.Less, A: 3, B: 0, C: 0}, api.Event{}, [4]int{3, 0, -7, 0}, 1},
		{api.Ins{Op: api.Load, A: 0, B: 5}, api.Event{Obj: 5}, [4]int{0, 0, -7, 1000}, 1},
		{api.Ins{Op: api.Store, A: 5, B: 2}, api.Event{Obj: 5, Value: -7}, regs, 1},
		{api.Ins{Op: api.Print, A: 3}, api.Event{Value: 1000}, regs, 1},
		{api.Ins{Op: api.Jump, A: 0}, api.Event{}, regs, 0},
		{api.Ins{Op: api.Jump, A: 1}, api.Event{}, regs, 1},
		{api.Ins{Op: api.Jump, A: 3}, api.Event{}, regs, 3},
		{api.Ins{Op: api.Zero, A: 1, B: 2}, api.Event{}, regs, 2},
		{api.Ins{Op: api.Zero, A: 1, B: 3}, api.Event{}, regs, 3},
		{api.Ins{Op: api.Zero, A: 1, B: 0}, api.Event{}, regs, 0},
		{api.Ins{Op: api.Zero, A: 2, B: 3}, api.Event{}, regs, 1},
		{api.Ins{Op: api.Go, A: 2}, api.Event{Obj: 2}, regs, 1},
		{api.Ins{Op: api.Lock, A: 3}, api.Event{Obj: 3}, regs, 1},
		{api.Ins{Op: api.RLock, A: 3}, api.Event{Obj: 3}, regs, 1},
		{api.Ins{Op: api.Read, A: 0, B: 3}, api.Event{Obj: 3}, [4]int{0, 0, -7, 1000}, 1},
		{api.Ins{Op: api.Write, A: 1, B: 2}, api.Event{Obj: 1, Value: -7}, regs, 1},
		{api.Ins{Op: api.Bump, A: 0, B: 3, C: 2}, api.Event{Obj: 3}, [4]int{0, 0, -7, 1000}, 1},
		{api.Ins{Op: api.Send, A: 2, B: 0}, api.Event{Obj: 2, Value: 3}, regs, 1},
		{api.Ins{Op: api.Poll, A: 3, B: 2, C: 0}, api.Event{Obj: 2}, [4]int{0, 0, -7, 0}, 1},
		{api.Ins{Op: api.Close, A: 3}, api.Event{Obj: 3}, regs, 1},
		{api.Ins{Op: api.Grow, A: 3, B: 4}, api.Event{Obj: 3, Value: 4}, regs, 1},
		{api.Ins{Op: api.Grow, A: 3, B: 0}, api.Event{Obj: 3}, regs, 1},
		{api.Ins{Op: api.Wait, A: 3}, api.Event{Obj: 3}, regs, 1},
		{api.Ins{Op: api.Begin, A: 2, B: 3}, api.Event{Obj: 3, Mode: 1}, [4]int{3, 0, 1, 1000}, 1},
	} {
		s := begins(t, many([]api.Ins{c.i, {}, {}}, nil, nil))
		for r, n := range regs {
			s.Set(0, r, n)
		}
		c.e.Op = c.i.Op
		if got := goes(t, s, 0)[0]; got != c.e {
			t.Errorf("%v tells %v, not %v", c.i, got, c.e)
		}
		if got := seen(s).regs[0]; got != c.regs {
			t.Errorf("%v: registers %v, not %v", c.i, got, c.regs)
		}
		if s.Pc(0) != c.pc {
			t.Errorf("%v: at %d, not %d", c.i, s.Pc(0), c.pc)
		}
	}
}

// Each thread has registers of its own, and an event tells whose it is, and where.
func TestWhoseAndWhere(t *testing.T) {
	code := func(n int) []api.Ins {
		return []api.Ins{{Op: api.Const, A: 2, B: n}, {Op: api.Jump, A: 2}, {Op: api.Print, A: 2}}
	}
	threads := [][]api.Ins{code(0), code(1), code(2), code(3), code(4), code(5)}
	for k := 1; k < 6; k++ {
		threads[0] = append(threads[0], api.Ins{Op: api.Go, A: k})
	}
	s := begins(t, many(threads...))
	goes(t, s, 0, 0, 0, 0, 0, 0, 0, 0)
	for k := 5; k > 0; k-- {
		want := []api.Event{{Thread: k, Op: api.Const}, {Thread: k, Pc: 1, Op: api.Jump}, {Thread: k, Pc: 2, Op: api.Print, Value: k}}
		if got := goes(t, s, k, k, k); !slices.Equal(got, want) {
			t.Errorf("%v, not %v", got, want)
		}
	}
	for k := range 6 {
		for r := range 4 {
			if got, is := s.Reg(k, r), r == 2; is && got != k || !is && got != 0 {
				t.Errorf("register %d of thread %d: %d", r, k, got)
			}
		}
	}
	if got := s.Prints(); !slices.Equal(got, []int{0, 5, 4, 3, 2, 1}) {
		t.Errorf("told %v", got)
	}
	comes(t, s, api.Done)
}

func TestNumbersGoRound(t *testing.T) {
	for _, c := range []struct {
		op      uint8
		b, c, a int
	}{
		{api.Add, most, 1, least},
		{api.Add, least, -1, most},
		{api.Add, least, least, 0},
		{api.Add, most, most, -2},
		{api.Sub, least, 1, most},
		{api.Sub, most, -1, least},
		{api.Sub, 0, least, least},
		{api.Mul, most, 2, -2},
		{api.Mul, least, -1, least},
		{api.Mul, least, 2, 0},
		{api.Mul, 1 << 32, 1 << 32, 0},
		{api.Mul, 1<<32 + 1, 1<<32 + 1, 1<<33 + 1},
		{api.Mul, -1, -1, 1},
		{api.Less, least, most, 1},
		{api.Less, most, least, 0},
		{api.Less, -1, 0, 1},
		{api.Less, 0, -1, 0},
		{api.Less, least, least + 1, 1},
		{api.Less, most - 1, most, 1},
		{api.Less, most, most, 0},
		{api.Less, least, least, 0},
	} {
		s := begins(t, one(api.Ins{Op: c.op, A: 0, B: 1, C: 2}))
		s.Set(0, 1, c.b)
		s.Set(0, 2, c.c)
		goes(t, s, 0)
		if got := s.Reg(0, 0); got != c.a {
			t.Errorf("%d of %d and %d: %d, not %d", c.op, c.b, c.c, got, c.a)
		}
	}
}

func TestVariables(t *testing.T) {
	start := api.Ins{Op: api.Go, A: 1}
	for x := range api.MaxVars {
		s := begins(t, many([]api.Ins{start, {Op: api.Store, A: x, B: 1}, {Op: api.Store, A: x, B: 2}}, []api.Ins{{Op: api.Load, A: 3, B: x}, {Op: api.Load, A: 3, B: x}}))
		s.Set(0, 1, -11)
		s.Set(0, 2, 22)
		goes(t, s, 0, 0)
		if s.Var(x) != -11 {
			t.Errorf("variable %d: %d", x, s.Var(x))
		}
		if got := goes(t, s, 1)[0]; got != (api.Event{Thread: 1, Op: api.Load, Obj: x, Value: -11}) || s.Reg(1, 3) != -11 {
			t.Errorf("%v, register %d", got, s.Reg(1, 3))
		}
		goes(t, s, 0, 1)
		if s.Reg(1, 3) != 22 {
			t.Errorf("register %d", s.Reg(1, 3))
		}
		for y := range api.MaxVars {
			if y != x && s.Var(y) != 0 {
				t.Errorf("variable %d is %d, with %d", y, s.Var(y), x)
			}
		}
	}
}

func TestAtoms(t *testing.T) {
	for x := range api.MaxAtoms {
		s := begins(t, one(
			api.Ins{Op: api.Write, A: x, B: 0},
			api.Ins{Op: api.Bump, A: 1, B: x, C: 2},
			api.Ins{Op: api.Read, A: 3, B: x},
			api.Ins{Op: api.Bump, A: 2, B: x, C: 2}, // A and C are one
			api.Ins{Op: api.Read, A: 3, B: x},
			api.Ins{Op: api.Read, A: 3, B: (x + 1) % 4},
		))
		s.Set(0, 0, most)
		s.Set(0, 2, 5)
		got := goes(t, s, 0, 0, 0, 0, 0, 0)
		want := []api.Event{
			{Op: api.Write, Obj: x, Value: most},
			{Pc: 1, Op: api.Bump, Obj: x, Value: most},
			{Pc: 2, Op: api.Read, Obj: x, Value: least + 4},
			{Pc: 3, Op: api.Bump, Obj: x, Value: least + 4},
			{Pc: 4, Op: api.Read, Obj: x, Value: least + 9},
			{Pc: 5, Op: api.Read, Obj: (x + 1) % 4},
		}
		if !slices.Equal(got, want) {
			t.Errorf("%v, not %v", got, want)
		}
		if regs := seen(s).regs[0]; regs != [4]int{most, most, least + 4, 0} {
			t.Errorf("registers %v", regs)
		}
	}
}

func TestJumps(t *testing.T) {
	// Behind all instructions a thread has ended.
	for _, i := range []api.Ins{{Op: api.Jump, A: 3}, {Op: api.Zero, A: 0, B: 3}} {
		s := begins(t, one(i, api.Ins{Op: api.Print}, api.Ins{Op: api.Print}))
		goes(t, s, 0)
		if s.Pc(0) != 3 || !s.On(0) {
			t.Errorf("%v leads to %d", i, s.Pc(0))
		}
		stays(t, s, 0)
		comes(t, s, api.Done)
	}
	// A loop that is three rounds long.
	s := begins(t, one(
		api.Ins{Op: api.Const, A: 0, B: 3},
		api.Ins{Op: api.Const, A: 1, B: 1},
		api.Ins{Op: api.Zero, A: 0, B: 6},
		api.Ins{Op: api.Print, A: 0},
		api.Ins{Op: api.Sub, A: 0, B: 0, C: 1},
		api.Ins{Op: api.Jump, A: 2},
	))
	for s.Can(0) {
		goes(t, s, 0)
	}
	if got := s.Prints(); !slices.Equal(got, []int{3, 2, 1}) || s.Pc(0) != 6 {
		t.Errorf("told %v, at %d", got, s.Pc(0))
	}
	// One that jumps to itself goes on for ever.
	s = begins(t, one(api.Ins{Op: api.Jump}))
	for range 1000 {
		goes(t, s, 0)
	}
	comes(t, s, api.Cut)
}

func TestGo(t *testing.T) {
	for k := 1; k < api.MaxThreads; k++ {
		threads := make([][]api.Ins, api.MaxThreads)
		for j := range threads {
			threads[j] = []api.Ins{{Op: api.Const, A: j % 4, B: j}}
		}
		threads[0] = []api.Ins{{Op: api.Go, A: k}, {}}
		s := begins(t, many(threads...))
		stays(t, s, k)
		goes(t, s, 0)
		for j := 1; j < api.MaxThreads; j++ {
			if s.On(j) != (j == k) || s.Can(j) != (j == k) || s.Pc(j) != 0 {
				t.Errorf("go %d: thread %d: %v, %v, at %d", k, j, s.On(j), s.Can(j), s.Pc(j))
			}
		}
		goes(t, s, k)
		if !s.On(k) || s.Can(k) || s.Pc(k) != 1 || s.Reg(k, k%4) != k {
			t.Errorf("thread %d has not ended as one does", k)
		}
	}
}

// traps holds the last of picks to be a trap that tells e, and to be all.
func traps(t *testing.T, p api.Program, e api.Event, picks ...int) {
	t.Helper()
	s := begins(t, p)
	end := len(picks) - 1
	goes(t, s, picks[:end]...)
	for k := range p.Threads {
		for r := range api.Regs {
			s.Set(k, r, 5+k+r)
		}
	}
	want := seen(s)
	want.pc[e.Thread]++
	want.status = api.Trap
	want.can = [api.MaxThreads]bool{}
	if got := goes(t, s, picks[end])[0]; got != e {
		t.Errorf("a trap tells %v, not %v", got, e)
	}
	if got := seen(s); !got.same(want) {
		t.Errorf("behind the trap %v it is %v, not %v", e, got, want)
	}
	for k := range api.MaxThreads {
		stays(t, s, k)
	}
	c := s.Copy()
	comes(t, c, api.Trap)
	stays(t, c, 0)
}

func TestTraps(t *testing.T) {
	start, nop := api.Ins{Op: api.Go, A: 1}, api.Ins{}
	// In each, thread 1 can go on ahead of the trap.
	do := func(code ...api.Ins) api.Program {
		return many(append(append([]api.Ins{start}, code...), nop), []api.Ins{nop, nop})
	}
	traps(t, do(start), api.Event{Pc: 1, Op: api.Go, Obj: 1}, 0, 0)
	traps(t, do(start), api.Event{Pc: 1, Op: api.Go, Obj: 1}, 0, 1, 1, 0) // it has ended
	traps(t, many([]api.Ins{start}, []api.Ins{start, nop}), api.Event{Thread: 1, Op: api.Go, Obj: 1}, 0, 1)
	for x := range 4 {
		lock, unlock := api.Ins{Op: api.Lock, A: x}, api.Ins{Op: api.Unlock, A: x}
		rlock, runlock := api.Ins{Op: api.RLock, A: x}, api.Ins{Op: api.RUnlock, A: x}
		other := api.Ins{Op: api.Lock, A: (x + 1) % 4}
		traps(t, do(unlock), api.Event{Pc: 1, Op: api.Unlock, Obj: x}, 0, 0)
		traps(t, do(lock, unlock, unlock), api.Event{Pc: 3, Op: api.Unlock, Obj: x}, 0, 0, 0, 0)
		traps(t, do(rlock, unlock), api.Event{Pc: 2, Op: api.Unlock, Obj: x}, 0, 0, 0)
		traps(t, do(other, unlock), api.Event{Pc: 2, Op: api.Unlock, Obj: x}, 0, 0, 0)
		traps(t, do(runlock), api.Event{Pc: 1, Op: api.RUnlock, Obj: x}, 0, 0)
		traps(t, do(lock, runlock), api.Event{Pc: 2, Op: api.RUnlock, Obj: x}, 0, 0, 0)
		traps(t, do(rlock, rlock, runlock, runlock, runlock), api.Event{Pc: 5, Op: api.RUnlock, Obj: x}, 0, 0, 0, 0, 0, 0)
		send, shut := api.Ins{Op: api.Send, A: x, B: 2}, api.Ins{Op: api.Close, A: x}
		traps(t, do(shut, send), api.Event{Pc: 2, Op: api.Send, Obj: x, Value: 7}, 0, 0, 0)
		traps(t, do(shut, shut), api.Event{Pc: 2, Op: api.Close, Obj: x}, 0, 0, 0)
		traps(t, do(send, shut, shut), api.Event{Pc: 3, Op: api.Close, Obj: x}, 0, 0, 0, 0)
		grow := func(n int) api.Ins { return api.Ins{Op: api.Grow, A: x, B: n} }
		traps(t, do(grow(-1)), api.Event{Pc: 1, Op: api.Grow, Obj: x, Value: -1}, 0, 0)
		traps(t, do(grow(2), grow(-3)), api.Event{Pc: 2, Op: api.Grow, Obj: x, Value: -3}, 0, 0, 0)
		traps(t, do(grow(least)), api.Event{Pc: 1, Op: api.Grow, Obj: x, Value: least}, 0, 0)
		traps(t, do(grow(most), grow(1)), api.Event{Pc: 2, Op: api.Grow, Obj: x, Value: 1}, 0, 0, 0)
		begin, end := api.Ins{Op: api.Begin, A: 0, B: x}, api.Ins{Op: api.End, A: x}
		traps(t, do(end), api.Event{Pc: 1, Op: api.End, Obj: x}, 0, 0)
		traps(t, do(begin, end, end), api.Event{Pc: 3, Op: api.End, Obj: x}, 0, 0, 0, 0)
		traps(t, do(begin, end, begin, end), api.Event{Pc: 4, Op: api.End, Obj: x}, 0, 0, 0, 0, 0)
	}
}

// A closed channel that is full blocks none who sends: it is a trap.
func TestSendToWhatIsFullAndClosed(t *testing.T) {
	p := one(api.Ins{Op: api.Send, A: 0, B: 0}, api.Ins{Op: api.Close, A: 0}, api.Ins{Op: api.Send, A: 0, B: 0})
	traps(t, p, api.Event{Pc: 2, Op: api.Send, Obj: 0, Value: 5}, 0, 0, 0)
}
