package state_test

import (
	"slices"
	"testing"

	"interlock/api"
	"interlock/state"
)

// side is a state of thread 0, whose code is first, and thread 1, whose code is second, which has begun.
func side(t *testing.T, first, second []api.Ins) *state.State {
	t.Helper()
	s := begins(t, many(append([]api.Ins{{Op: api.Go, A: 1}}, first...), second))
	goes(t, s, 0)
	return s
}

// waits holds thread 1 to being blocked till thread 0 has made its n-th step, and to telling e then.
func waits(t *testing.T, s *state.State, from, n int, e api.Event) {
	t.Helper()
	for at := from; at < n; at++ {
		stays(t, s, 1)
		goes(t, s, 0)
	}
	e.Thread = 1
	if got := goes(t, s, 1)[0]; got != e {
		t.Errorf("it tells %v, not %v", got, e)
	}
}

func TestLocks(t *testing.T) {
	for x := range 4 {
		lock, unlock := api.Ins{Op: api.Lock, A: x}, api.Ins{Op: api.Unlock, A: x}
		rlock, runlock := api.Ins{Op: api.RLock, A: x}, api.Ins{Op: api.RUnlock, A: x}
		// What is locked blocks both; it need not be who locked it that unlocks it.
		for _, i := range []api.Ins{lock, rlock} {
			s := side(t, []api.Ins{lock, unlock}, []api.Ins{i})
			goes(t, s, 0)
			waits(t, s, 0, 1, api.Event{Op: i.Op, Obj: x})
		}
		// It is locked once.
		s := side(t, []api.Ins{lock, lock}, []api.Ins{unlock})
		goes(t, s, 0)
		stays(t, s, 0)
		goes(t, s, 1, 0)
		comes(t, s, api.Done)
		// Readers block those who lock, till there are none, and no readers.
		s = side(t, []api.Ins{rlock, rlock, rlock, runlock, runlock, runlock}, []api.Ins{lock})
		goes(t, s, 0)
		waits(t, s, 1, 6, api.Event{Op: api.Lock, Obj: x})
		s = side(t, []api.Ins{rlock, rlock, runlock}, []api.Ins{rlock, runlock, runlock, lock})
		goes(t, s, 0, 0, 1, 0, 1)
		got := goes(t, s, 1, 1)
		want := []api.Event{{Thread: 1, Pc: 2, Op: api.RUnlock, Obj: x}, {Thread: 1, Pc: 3, Op: api.Lock, Obj: x}}
		if !slices.Equal(got, want) {
			t.Errorf("%v, not %v", got, want)
		}
		// Another lock is another.
		s = side(t, []api.Ins{lock}, []api.Ins{{Op: api.Lock, A: (x + 1) % 4}, {Op: api.RLock, A: (x + 2) % 4}})
		goes(t, s, 0, 1, 1)
		comes(t, s, api.Done)
	}
}

// Numbers come out as they went in, and no more go in than there may be.
func TestChannelsInOrder(t *testing.T) {
	for x, room := range []int{1, 2, 3, 1} {
		var in, out []api.Ins
		for range 8 {
			in = append(in, api.Ins{Op: api.Send, A: x, B: 1})
			out = append(out, api.Ins{Op: api.Recv, A: 2, B: x})
		}
		s := side(t, in, out)
		next, first := 10, 10
		for first < 18 {
			for next < 18 && next-first < room {
				s.Set(0, 1, next)
				if got := goes(t, s, 0)[0]; got != (api.Event{Pc: next - 9, Op: api.Send, Obj: x, Value: next}) {
					t.Errorf("channel %d: %v", x, got)
				}
				next++
			}
			stays(t, s, 0)
			for range 1 + first%room { // it is now and then empty, and now and then not
				if first == next {
					break
				}
				want := api.Event{Thread: 1, Pc: first - 10, Op: api.Recv, Obj: x, Value: first, Mode: 1}
				if got := goes(t, s, 1)[0]; got != want || s.Reg(1, 2) != first {
					t.Errorf("channel %d: %v, not %v; register %d", x, got, want, s.Reg(1, 2))
				}
				first++
			}
		}
		comes(t, s, api.Done)
	}
}

func TestRecvWaits(t *testing.T) {
	for x := range 4 {
		recv := api.Ins{Op: api.Recv, A: 3, B: x}
		s := side(t, []api.Ins{{}, {Op: api.Send, A: x, B: 0}}, []api.Ins{recv})
		s.Set(0, 0, -4)
		s.Set(1, 3, 9)
		waits(t, s, 0, 2, api.Event{Op: api.Recv, Obj: x, Value: -4, Mode: 1})
		if s.Reg(1, 3) != -4 {
			t.Errorf("register %d", s.Reg(1, 3))
		}
		s = side(t, []api.Ins{{}, {Op: api.Close, A: x}}, []api.Ins{recv})
		s.Set(1, 3, 9)
		waits(t, s, 0, 2, api.Event{Op: api.Recv, Obj: x, Mode: 2})
		if s.Reg(1, 3) != 0 {
			t.Errorf("register %d", s.Reg(1, 3))
		}
		// Another channel is another.
		s = side(t, []api.Ins{{Op: api.Send, A: (x + 1) % 4, B: 0}, {Op: api.Close, A: (x + 2) % 4}}, []api.Ins{recv})
		goes(t, s, 0, 0)
		stays(t, s, 1)
		comes(t, s, api.Stuck)
	}
}

func TestSendWaits(t *testing.T) {
	send := api.Ins{Op: api.Send, A: 1, B: 0}
	take := []api.Ins{{Op: api.Recv, A: 0, B: 1}, {Op: api.Poll, A: 0, B: 1, C: 0}}
	for _, i := range take {
		s := side(t, []api.Ins{send, send, i}, []api.Ins{send})
		s.Set(1, 0, 6)
		goes(t, s, 0, 0)
		waits(t, s, 2, 3, api.Event{Op: api.Send, Obj: 1, Value: 6})
	}
	// Another channel is another.
	s := side(t, []api.Ins{send, send, send}, []api.Ins{{Op: api.Send, A: 0, B: 0}})
	goes(t, s, 0, 0)
	stays(t, s, 0)
	goes(t, s, 1)
	comes(t, s, api.Stuck)
}

// A channel that is closed gives what is inside, then nothing, as often as it is asked.
func TestChannelsThatAreClosed(t *testing.T) {
	recv, poll := api.Ins{Op: api.Recv, A: 1, B: 2}, api.Ins{Op: api.Poll, A: 1, B: 2, C: 3}
	send, shut := api.Ins{Op: api.Send, A: 2, B: 0}, api.Ins{Op: api.Close, A: 2}
	s := begins(t, one(send, send, send, shut, recv, poll, recv, recv, poll, recv, poll))
	for n := range 3 {
		s.Set(0, 0, 20+n)
		goes(t, s, 0)
	}
	goes(t, s, 0)
	want := []api.Event{
		{Pc: 4, Op: api.Recv, Obj: 2, Value: 20, Mode: 1},
		{Pc: 5, Op: api.Poll, Obj: 2, Value: 21, Mode: 1},
		{Pc: 6, Op: api.Recv, Obj: 2, Value: 22, Mode: 1},
		{Pc: 7, Op: api.Recv, Obj: 2, Mode: 2},
		{Pc: 8, Op: api.Poll, Obj: 2, Mode: 2},
		{Pc: 9, Op: api.Recv, Obj: 2, Mode: 2},
		{Pc: 10, Op: api.Poll, Obj: 2, Mode: 2},
	}
	for _, e := range want {
		s.Set(0, 1, 99)
		s.Set(0, 3, 99)
		if got := goes(t, s, 0)[0]; got != e || s.Reg(0, 1) != e.Value {
			t.Errorf("%v, not %v; register %d", got, e, s.Reg(0, 1))
		}
		tells := 99
		if e.Op == api.Poll {
			tells = e.Mode % 2
		}
		if got := s.Reg(0, 3); got != tells {
			t.Errorf("%v: register 3 is %d, not %d", e, got, tells)
		}
	}
	comes(t, s, api.Done)
}

func TestPoll(t *testing.T) {
	send, shut := api.Ins{Op: api.Send, A: 0, B: 0}, api.Ins{Op: api.Close, A: 0}
	for _, c := range []struct {
		ahead []api.Ins
		value int
		mode  int
	}{
		{nil, 0, 0},
		{[]api.Ins{send}, 7, 1},
		{[]api.Ins{send, shut}, 7, 1},
		{[]api.Ins{shut}, 0, 2},
		{[]api.Ins{send, {Op: api.Recv, A: 1, B: 0}}, 0, 0},
		{[]api.Ins{send, {Op: api.Recv, A: 1, B: 0}, shut}, 0, 2},
	} {
		is := c.mode % 2
		for _, r := range [][2]int{{2, 3}, {3, 2}, {2, 2}} { // in the last A and C are one: C is behind A
			s := begins(t, one(append(slices.Clone(c.ahead), api.Ins{Op: api.Poll, A: r[0], B: 0, C: r[1]})...))
			s.Set(0, 0, 7)
			s.Set(0, 2, 99)
			s.Set(0, 3, 99)
			for range c.ahead {
				goes(t, s, 0)
			}
			want := api.Event{Pc: len(c.ahead), Op: api.Poll, Value: c.value, Mode: c.mode}
			if got := goes(t, s, 0)[0]; got != want {
				t.Errorf("%v, not %v", got, want)
			}
			if s.Reg(0, r[1]) != is || r[0] != r[1] && s.Reg(0, r[0]) != c.value {
				t.Errorf("poll %d 0 %d behind %v: registers %v", r[0], r[1], c.ahead, seen(s).regs[0])
			}
		}
	}
}

func TestGroups(t *testing.T) {
	for x := range 4 {
		grow := func(n int) api.Ins { return api.Ins{Op: api.Grow, A: x, B: n} }
		s := side(t, []api.Ins{grow(3), grow(-1), grow(0), grow(1), grow(-2), grow(-1)}, []api.Ins{{Op: api.Wait, A: x}})
		goes(t, s, 0)
		waits(t, s, 1, 6, api.Event{Op: api.Wait, Obj: x})
		s = side(t, []api.Ins{grow(most), grow(-most), {Op: api.Wait, A: x}}, nil)
		got := goes(t, s, 0, 0, 0)
		want := []api.Event{{Pc: 1, Op: api.Grow, Obj: x, Value: most}, {Pc: 2, Op: api.Grow, Obj: x, Value: -most}, {Pc: 3, Op: api.Wait, Obj: x}}
		if !slices.Equal(got, want) {
			t.Errorf("%v, not %v", got, want)
		}
		// Another group is another; and waiting for one leaves it as it is.
		s = side(t, []api.Ins{grow(1)}, []api.Ins{{Op: api.Wait, A: (x + 1) % 4}, {Op: api.Wait, A: x}})
		goes(t, s, 0, 1)
		stays(t, s, 1)
		s = begins(t, one(api.Ins{Op: api.Wait, A: x}, api.Ins{Op: api.Wait, A: x}, grow(1), api.Ins{Op: api.Wait, A: x}))
		goes(t, s, 0, 0, 0)
		stays(t, s, 0)
	}
}

func TestOnces(t *testing.T) {
	for x := range 4 {
		begin, end := api.Ins{Op: api.Begin, A: 1, B: x}, api.Ins{Op: api.End, A: x}
		s := side(t, []api.Ins{begin, {}, end}, []api.Ins{begin, begin})
		s.Set(0, 1, 9)
		s.Set(1, 1, 9)
		if got := goes(t, s, 0)[0]; got != (api.Event{Pc: 1, Op: api.Begin, Obj: x, Mode: 1}) || s.Reg(0, 1) != 1 {
			t.Errorf("the first: %v, register %d", got, s.Reg(0, 1))
		}
		waits(t, s, 1, 3, api.Event{Op: api.Begin, Obj: x})
		if s.Reg(1, 1) != 0 || s.Reg(0, 1) != 1 {
			t.Errorf("the second: registers %d, %d", s.Reg(0, 1), s.Reg(1, 1))
		}
		if got := goes(t, s, 1)[0]; got != (api.Event{Thread: 1, Pc: 1, Op: api.Begin, Obj: x}) {
			t.Errorf("the third: %v", got)
		}
		// It need not be who began it that ends it; who began it waits like any other.
		s = side(t, []api.Ins{begin, begin}, []api.Ins{end})
		goes(t, s, 0)
		stays(t, s, 0)
		if got := goes(t, s, 1)[0]; got != (api.Event{Thread: 1, Op: api.End, Obj: x}) {
			t.Errorf("%v", got)
		}
		goes(t, s, 0)
		// Another once is another.
		s = side(t, []api.Ins{begin}, []api.Ins{{Op: api.Begin, A: 0, B: (x + 1) % 4}})
		if got := goes(t, s, 0, 1)[1]; got.Mode != 1 {
			t.Errorf("%v", got)
		}
	}
}
