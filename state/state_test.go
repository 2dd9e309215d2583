package state_test

import (
	"math"
	"slices"
	"testing"

	"interlock/api"
	"interlock/state"
)

// far are numbers of threads, registers and variables of which there is never one.
var far = []int{-1, -2, -64, 64, math.MinInt, math.MinInt + 1, math.MaxInt}

// one is a program of one thread, with all that there may be of everything.
func one(code ...api.Ins) api.Program { return many(code) }

// many is a program of such threads, with all that there may be of everything.
func many(threads ...[]api.Ins) api.Program {
	return api.Program{Vars: 8, Atoms: 4, Locks: 4, Chans: []int{1, 2, 3, 1}, Groups: 4, Onces: 4, Threads: threads}
}

// begins is a state of a program that is sound.
func begins(t *testing.T, p api.Program) *state.State {
	t.Helper()
	s := state.New(p)
	if s == nil {
		t.Fatalf("no state of %v", p)
	}
	return s
}

// goes makes the steps of picks, which all can be, and is their events.
func goes(t *testing.T, s *state.State, picks ...int) []api.Event {
	t.Helper()
	var all []api.Event
	for at, k := range picks {
		if !s.Can(k) {
			t.Fatalf("pick %d: thread %d can not go on at %d", at, k, s.Pc(k))
		}
		e, is := s.Step(k)
		if !is {
			t.Fatalf("pick %d: thread %d makes no step at %d", at, k, s.Pc(k))
		}
		all = append(all, e)
	}
	return all
}

// stays holds a thread to making no step, and the state to staying as it is.
func stays(t *testing.T, s *state.State, k int) {
	t.Helper()
	if s.Can(k) {
		t.Errorf("thread %d can go on at %d", k, s.Pc(k))
	}
	ahead := seen(s)
	if e, is := s.Step(k); is || e != (api.Event{}) {
		t.Errorf("thread %d makes a step: %v, %v", k, e, is)
	}
	if now := seen(s); !now.same(ahead) {
		t.Errorf("thread %d, that can not go on: %v was %v", k, now, ahead)
	}
}

// comes holds a state to its status.
func comes(t *testing.T, s *state.State, status uint8) {
	t.Helper()
	if got := s.Status(); got != status {
		t.Errorf("status %d, not %d", got, status)
	}
}

// view is all that can be seen of a state.
type view struct {
	can, on [api.MaxThreads]bool
	pc      [api.MaxThreads]int
	regs    [api.MaxThreads][api.Regs]int
	vars    [api.MaxVars]int
	status  uint8
	prints  []int
}

func seen(s *state.State) view {
	v := view{status: s.Status(), prints: s.Prints()}
	for k := range v.pc {
		v.can[k], v.on[k], v.pc[k] = s.Can(k), s.On(k), s.Pc(k)
		for r := range v.regs[k] {
			v.regs[k][r] = s.Reg(k, r)
		}
	}
	for x := range v.vars {
		v.vars[x] = s.Var(x)
	}
	return v
}

func (v view) same(w view) bool {
	return v.can == w.can && v.on == w.on && v.pc == w.pc && v.regs == w.regs && v.vars == w.vars && v.status == w.status && slices.Equal(v.prints, w.prints)
}

func TestExample(t *testing.T) {
	s := begins(t, api.Program{Threads: [][]api.Ins{{{Op: api.Const, A: 0, B: 7}, {Op: api.Print, A: 0}}}})
	comes(t, s, api.Cut)
	got := goes(t, s, 0, 0)
	want := []api.Event{{Op: api.Const}, {Pc: 1, Op: api.Print, Value: 7}}
	if !slices.Equal(got, want) || !slices.Equal(s.Prints(), []int{7}) {
		t.Errorf("%v, told %v", got, s.Prints())
	}
	comes(t, s, api.Done)
	stays(t, s, 0)
}

func TestNewOfWhatIsNotSound(t *testing.T) {
	code := func(i ...api.Ins) [][]api.Ins { return [][]api.Ins{i} }
	for _, p := range []api.Program{
		{},
		{Threads: [][]api.Ins{}},
		{Threads: make([][]api.Ins, 7)},
		{Threads: code(make([]api.Ins, 61)...)},
		{Vars: 9, Threads: code()},
		{Vars: -1, Threads: code()},
		{Atoms: 5, Threads: code()},
		{Locks: 5, Threads: code()},
		{Groups: -1, Threads: code()},
		{Onces: math.MaxInt, Threads: code()},
		{Chans: []int{1, 1, 1, 1, 1}, Threads: code()},
		{Chans: []int{1, 0}, Threads: code()},
		{Chans: []int{4}, Threads: code()},
		{Threads: code(api.Ins{Op: api.Ops})},
		{Threads: code(api.Ins{Op: 255})},
		{Threads: code(api.Ins{Op: api.Nop, A: 1})},
		{Threads: code(api.Ins{Op: api.Print, A: 4})},
		{Threads: code(api.Ins{Op: api.Print, A: -1})},
		{Threads: code(api.Ins{Op: api.Load})},
		{Vars: 1, Threads: code(api.Ins{Op: api.Store, A: 1})},
		{Threads: code(api.Ins{Op: api.Jump, A: 2})},
		{Threads: code(api.Ins{Op: api.Go})},
		{Threads: code(api.Ins{Op: api.Go, A: 1})},
	} {
		if s := state.New(p); s != nil {
			t.Errorf("a state of %v", p)
		}
	}
}

func TestNew(t *testing.T) {
	for threads := 1; threads <= api.MaxThreads; threads++ {
		p := api.Program{Vars: 8, Threads: make([][]api.Ins, threads)}
		for k := range p.Threads {
			p.Threads[k] = []api.Ins{{}}
		}
		want := view{status: api.Cut}
		want.on[0], want.can[0] = true, true
		if got := seen(begins(t, p)); !got.same(want) {
			t.Errorf("%d threads: %v", threads, got)
		}
	}
}

// Atoms, locks, channels, groups and onces are seen by what is done with them.
func TestNewOfThings(t *testing.T) {
	for x := range 4 {
		s := begins(t, one(
			api.Ins{Op: api.Const, A: 0, B: 9},
			api.Ins{Op: api.Read, A: 0, B: x},
			api.Ins{Op: api.Poll, A: 1, B: x, C: 2},
			api.Ins{Op: api.Wait, A: x},
			api.Ins{Op: api.Begin, A: 1, B: x},
			api.Ins{Op: api.Lock, A: x},
		))
		got := goes(t, s, 0, 0, 0, 0, 0, 0)
		want := []api.Event{
			{Op: api.Const},
			{Pc: 1, Op: api.Read, Obj: x},
			{Pc: 2, Op: api.Poll, Obj: x},
			{Pc: 3, Op: api.Wait, Obj: x},
			{Pc: 4, Op: api.Begin, Obj: x, Mode: 1},
			{Pc: 5, Op: api.Lock, Obj: x},
		}
		if !slices.Equal(got, want) || s.Reg(0, 0) != 0 {
			t.Errorf("things %d: %v", x, got)
		}
	}
}

func TestStatus(t *testing.T) {
	nop, wait := api.Ins{}, api.Ins{Op: api.Wait}
	more, start := api.Ins{Op: api.Grow, B: 1}, api.Ins{Op: api.Go, A: 1}
	for _, c := range []struct {
		name  string
		p     api.Program
		picks []int
		want  uint8
	}{
		{"no code", one(), nil, api.Done},
		{"at the beginning", one(nop), nil, api.Cut},
		{"ended", one(nop), []int{0}, api.Done},
		{"one that has not begun does not count", many([]api.Ins{nop}, []api.Ins{nop}), []int{0}, api.Done},
		{"one that has begun does", many([]api.Ins{start}, []api.Ins{nop}), []int{0}, api.Cut},
		{"one that begins has no code", many([]api.Ins{start}, nil), []int{0}, api.Done},
		{"all have ended", many([]api.Ins{start}, []api.Ins{nop}), []int{0, 1}, api.Done},
		{"blocked", one(more, wait), []int{0}, api.Stuck},
		{"one is blocked, one has ended", many([]api.Ins{start, more}, []api.Ins{wait}), []int{0, 0}, api.Stuck},
		{"one has ended, one is blocked", many([]api.Ins{start, more, wait}, []api.Ins{nop}), []int{0, 1, 0}, api.Stuck},
		{"one is blocked, one has not begun", many([]api.Ins{more, wait}, []api.Ins{nop}), []int{0}, api.Stuck},
		{"one is blocked, one is not", many([]api.Ins{start, more, wait}, []api.Ins{nop}), []int{0, 0}, api.Cut},
		{"a trap", one(api.Ins{Op: api.Unlock}, nop), []int{0}, api.Trap},
		{"a trap by the last instruction", one(api.Ins{Op: api.Unlock}), []int{0}, api.Trap},
		{"a trap, and one is blocked", many([]api.Ins{start, more, {Op: api.Unlock}}, []api.Ins{wait}), []int{0, 0, 0}, api.Trap},
	} {
		s := begins(t, c.p)
		goes(t, s, c.picks...)
		if got := s.Status(); got != c.want {
			t.Errorf("%s: status %d, not %d", c.name, got, c.want)
		}
	}
}

// Threads, registers and variables that are not there are 0, and can not be set or go on.
func TestWhatIsNotThere(t *testing.T) {
	for n := 1; n <= api.MaxThreads; n++ {
		threads := make([][]api.Ins, n)
		for k := range threads {
			threads[k] = []api.Ins{{Op: api.Const, A: 3, B: 5}, {Op: api.Store, A: 0, B: 3}, {}}
		}
		for k := 1; k < n; k++ {
			threads[0] = append(threads[0], api.Ins{Op: api.Go, A: k})
		}
		p := api.Program{Vars: n, Threads: threads}
		s := begins(t, p)
		for range threads[0] {
			goes(t, s, 0)
		}
		ahead := seen(s)
		for _, k := range append([]int{n, n + 1, 5 + n}, far...) {
			stays(t, s, k)
			if s.On(k) || s.Pc(k) != 0 {
				t.Errorf("of %d threads there is one %d", n, k)
			}
			if s.Var(k) != 0 {
				t.Errorf("of %d variables there is one %d", n, k)
			}
			for r := range api.Regs {
				s.Set(k, r, 77)
				if s.Reg(k, r) != 0 {
					t.Errorf("thread %d of %d has a register", k, n)
				}
			}
		}
		for _, r := range append([]int{4, 5, 8}, far...) {
			s.Set(0, r, 77)
			s.Set(n-1, r, 77)
			if s.Reg(0, r) != 0 || s.Reg(n-1, r) != 0 {
				t.Errorf("threads have a register %d", r)
			}
		}
		if now := seen(s); !now.same(ahead) {
			t.Errorf("what is not there was set: %v was %v", now, ahead)
		}
	}
}

func TestSet(t *testing.T) {
	s := begins(t, many([]api.Ins{{Op: api.Go, A: 1}, {Op: api.Go, A: 1}}, []api.Ins{{Op: api.Print, A: 3}}, []api.Ins{{}}))
	want := [3][4]int{}
	set := func() {
		for k := range want {
			for r := range want[k] {
				want[k][r] += 1 + 10*r + 100*k
				s.Set(k, r, want[k][r])
			}
		}
		for k := range want {
			for r := range want[k] {
				if got := s.Reg(k, r); got != want[k][r] {
					t.Errorf("register %d of thread %d: %d, not %d", r, k, got, want[k][r])
				}
			}
		}
	}
	set()
	goes(t, s, 0)
	set()
	if got := goes(t, s, 1)[0].Value; got != want[1][3] {
		t.Errorf("register 3 of thread 1 is told as %d, not %d", got, want[1][3])
	}
	set()
	goes(t, s, 0)
	comes(t, s, api.Trap)
	set()
	for _, v := range []int{0, -1, math.MinInt, math.MaxInt} {
		s.Set(0, 0, v)
		if s.Reg(0, 0) != v {
			t.Errorf("the register is %d, not %d", s.Reg(0, 0), v)
		}
	}
}

func TestPrints(t *testing.T) {
	s := begins(t, one(
		api.Ins{Op: api.Print, A: 1},
		api.Ins{Op: api.Print, A: 2},
		api.Ins{Op: api.Print, A: 0},
		api.Ins{Op: api.Print, A: 3},
	))
	for r, v := range []int{math.MinInt, -5, 8, math.MaxInt} {
		s.Set(0, r, v)
	}
	want := []int{}
	for _, n := range []int{-5, 8, math.MinInt, math.MaxInt} {
		first := s.Prints()
		for at := range first {
			first[at] = 99
		}
		_ = append(first, 98)
		goes(t, s, 0)
		want = append(want, n)
		if got := s.Prints(); !slices.Equal(got, want) {
			t.Fatalf("%v, not %v", got, want)
		}
		if whole := first[:cap(first)]; len(whole) > len(first) && whole[len(first)] == n {
			t.Errorf("%d was written behind what was handed out", n)
		}
	}
	a, b := s.Prints(), s.Prints()
	a[0] = 1
	if b[0] != -5 || s.Prints()[0] != -5 {
		t.Error("two answers share memory")
	}
}

// A program is as it was, behind its lists' lengths too, whatever its states do; and what is behind them is not done.
func TestProgramsAreNotChanged(t *testing.T) {
	trap := api.Ins{Op: api.Unlock}
	whole := []api.Ins{{Op: api.Const, A: 0, B: 3}, {Op: api.Send, A: 0, B: 0}, {Op: api.Jump, A: 3}, trap, {Op: 99, A: 99}}
	threads := [][]api.Ins{whole[:3], {trap}, {{Op: 77}}}
	chans := []int{1, 99}
	p := api.Program{Locks: 1, Chans: chans[:1], Threads: threads[:1]}
	copied := slices.Clone(whole)
	s := begins(t, p)
	c := s.Copy()
	for _, one := range []*state.State{s, c} {
		goes(t, one, 0, 0, 0)
		one.Set(0, 0, 8)
		stays(t, one, 0)
		comes(t, one, api.Done)
	}
	if !slices.Equal(whole, copied) || len(threads[0]) != 3 || &threads[0][0] != &whole[0] || threads[1][0] != trap || threads[2][0].Op != 77 || !slices.Equal(chans, []int{1, 99}) {
		t.Errorf("%v, %v, %v", whole, threads, chans)
	}
}

// A state is safe, and does the same, even if the lists of its program are changed behind it.
func TestStatesHaveCodeOfTheirOwn(t *testing.T) {
	p := many([]api.Ins{{Op: api.Const, A: 0, B: 3}, {Op: api.Print, A: 0}, {Op: api.Send, A: 0, B: 0}, {Op: api.Send, A: 0, B: 0}})
	s := begins(t, p)
	for at := range p.Threads[0] {
		p.Threads[0][at] = api.Ins{Op: 99, A: 99, B: -1}
	}
	p.Threads[0], p.Chans[0] = nil, 3
	goes(t, s, 0, 0, 0)
	if got := s.Prints(); !slices.Equal(got, []int{3}) {
		t.Errorf("told %v", got)
	}
	stays(t, s, 0)
	comes(t, s, api.Stuck)
}
