package weak_test

import (
	"math"
	"slices"
	"testing"
	"time"

	"interlock/api"
	"interlock/ir"
	"interlock/order"
	"interlock/race"
	"interlock/state"
	"interlock/weak"
)

// account is a second one of May, written as the chapter has it: of all that may be, those are left for which none speaks against.
func account(p api.Program, t []api.Event, thread, x int) []int {
	l := append(slices.Clone(t), api.Event{Thread: thread, Op: api.Load, Obj: x})
	candidates := []int{-1}
	for i, e := range t {
		if e.Op == api.Store && e.Obj == x {
			candidates = append(candidates, i)
		}
	}
	var may []int
	for _, i := range candidates {
		against := slices.ContainsFunc(candidates, func(k int) bool {
			return k != i && k != -1 && (i == -1 || order.Before(p, l, i, k)) && order.Before(p, l, k, len(t))
		})
		if !against {
			may = append(may, i)
		}
	}
	slices.Reverse(may)
	return may
}

// told counts answers: one store alone, the beginning alone, many stores, stores and the beginning.
type told [4]int

func (n *told) count(may []int) {
	begins := slices.Contains(may, -1)
	switch {
	case len(may) == 1 && !begins:
		n[0]++
	case len(may) == 1:
		n[1]++
	case !begins:
		n[2]++
	default:
		n[3]++
	}
}

// agrees holds May to the second account, for threads and variables that events have, and others.
func agrees(t *testing.T, p api.Program, l []api.Event, met *told) {
	t.Helper()
	for k := -1; k <= api.MaxThreads; k++ {
		for x := -1; x <= 2; x++ {
			want := account(p, l, k, x)
			may(t, p, l, k, x, want...)
			met.count(want)
		}
	}
	if t.Failed() {
		t.FailNow()
	}
}

// sequence is a row of numbers that hangs on nothing but where it began.
type sequence uint64

// below is the next number, from 0 to n - 1.
func (s *sequence) below(n int) int {
	*s = *s*6364136223846793005 + 1442695040888963407
	return int(uint64(*s) >> 33 % uint64(n))
}

// kinds are instructions that belong together, and all of them, with some that there are not.
func kinds() [][]uint8 {
	all := []uint8{api.Ops, api.Ops + 1, 128, 255}
	for op := range api.Ops {
		all = append(all, uint8(op))
	}
	return [][]uint8{
		all,
		{api.Unlock, api.Lock, api.RLock, api.RUnlock},
		{api.RUnlock, api.Lock},
		{api.Write, api.Read, api.Bump},
		{api.Send, api.Recv, api.Poll, api.Close},
		{api.Grow, api.Wait, api.Begin, api.End, api.Go},
		{api.Send, api.Recv, api.Write, api.Read, api.Lock, api.Unlock, api.Nop},
	}
}

// event is one of threads and things of so many kinds; it need not be one that a run could have. Each third touches a variable.
func (s *sequence) event(threads, things int, ops []uint8) api.Event {
	e := api.Event{
		Thread: s.below(threads),
		Pc:     s.below(3),
		Op:     ops[s.below(len(ops))],
		Obj:    s.below(things) - s.below(2),
		Value:  s.below(3) - 1,
		Mode:   s.below(3),
	}
	if s.below(3) == 0 {
		e.Op = []uint8{api.Load, api.Store, api.Store}[s.below(3)]
	}
	if s.below(40) == 0 {
		for _, to := range []*int{&e.Thread, &e.Obj, &e.Value, &e.Mode} {
			if s.below(2) == 0 {
				*to = odd[s.below(len(odd))]
			}
		}
	}
	return e
}

// trace is so many events at most, of all instructions, or of those that belong together.
func (s *sequence) trace(most int) []api.Event {
	all := kinds()
	ops := all[s.below(len(all))]
	threads, things := 1+s.below(api.MaxThreads), 1+s.below(3)
	l := make([]api.Event, s.below(most+1))
	for n := range l {
		l[n] = s.event(threads, things, ops)
	}
	return l
}

// chans are some channels, of which one may hold what none can.
func (s *sequence) chans() []int {
	l := make([]int, s.below(4))
	for n := range l {
		l[n] = s.below(4)
		if s.below(10) == 0 {
			l[n] = []int{-1, -3, 60, math.MinInt, math.MaxInt}[s.below(5)]
		}
	}
	return l
}

func TestMayAgainstAccount(t *testing.T) {
	var met told
	s := sequence(9)
	for range 1500 {
		agrees(t, chans(s.chans()...), s.trace(24), &met)
	}
	if slices.Min(met[:]) < 1000 {
		t.Errorf("not all was met: %v", met)
	}
}

// locked is a trace of which most events touch a variable under a lock.
func (s *sequence) locked(threads int) []api.Event {
	var l []api.Event
	for range 1 + s.below(8) {
		k := s.below(threads)
		part := []api.Event{of(k, api.Lock, 0), of(k, []uint8{api.Load, api.Store}[s.below(2)], s.below(2)), of(k, api.Unlock, 0)}
		if s.below(10) == 0 {
			n := s.below(3)
			part = slices.Delete(part, n, n+1)
		}
		l = append(l, part...)
	}
	return append(l, of(s.below(threads), api.Lock, 0))
}

// Where nothing races each load may read one number alone: the last. (The load itself is one of what must not race.)
func TestMayWhereNothingRaces(t *testing.T) {
	s := sequence(90)
	met := 0
	for n := range 6000 {
		p, l := chans(s.chans()...), s.trace(12)
		if n%2 == 0 {
			l = s.locked(2 + s.below(5))
		}
		for k := range api.MaxThreads {
			for x := range 2 {
				if race.Racy(p, append(slices.Clone(l), of(k, api.Load, x))) || slices.ContainsFunc(l, strange) {
					continue
				}
				last := len(l) - 1
				for last >= 0 && (l[last].Op != api.Store || l[last].Obj != x) {
					last--
				}
				may(t, p, l, k, x, last)
				if last >= 0 && l[last].Thread != k {
					met++
				}
			}
		}
	}
	if met < 1000 {
		t.Errorf("only %d were of what another thread stored", met)
	}
}

// strange says whether an event is of a thread of which no races are told.
func strange(e api.Event) bool { return e.Thread < 0 || e.Thread >= api.MaxThreads }

// instruction is one of a program of two of everything, with n threads, in code of size instructions; those that may be traps, or wait for good, are fewer, and half of all load, store or tell.
func (s *sequence) instruction(n, size int) api.Ins {
	op := uint8(s.below(api.Ops))
	switch op {
	case api.Unlock, api.RUnlock, api.End, api.Close, api.Wait, api.Recv, api.Go:
		if s.below(6) > 0 {
			op = api.Print
		}
	}
	if s.below(2) == 0 {
		op = []uint8{api.Load, api.Store, api.Print}[s.below(3)]
	}
	i := api.Ins{Op: op}
	_, words := ir.Name(op)
	for _, to := range []*int{&i.A, &i.B, &i.C}[:words] {
		*to = s.below(2)
	}
	switch op {
	case api.Const:
		i.B = s.below(9) - 4
	case api.Jump:
		i.A = s.below(size)
	case api.Zero:
		i.B = s.below(size)
	case api.Go:
		i.A = 1 + s.below(n-1)
	}
	return i
}

// code is a thread's: its registers are numbers of its own at first, and of eight parts so many touch a variable under a lock.
func (s *sequence) code(k, n, locked int) []api.Ins {
	code := []api.Ins{at(api.Const, 0, 10*k+1), at(api.Const, 1, 10*k+2)}
	for range 2 + s.below(12) {
		if s.below(8) < locked {
			code = append(code, at(api.Lock, 0), at([]uint8{api.Load, api.Store}[s.below(2)], s.below(2), s.below(2)), at(api.Unlock, 0))
			continue
		}
		code = append(code, s.instruction(n, len(code)))
	}
	return code
}

// program is one in which thread 0 begins with Go of all others, sooner or later.
func (s *sequence) program(locked int) api.Program {
	p := api.Program{Vars: 2, Atoms: 2, Locks: 2, Chans: []int{1 + s.below(3), 1 + s.below(3)}, Groups: 2, Onces: 2}
	p.Threads = make([][]api.Ins, 2+s.below(api.MaxThreads-1))
	for k := range p.Threads {
		p.Threads[k] = s.code(k, len(p.Threads), locked)
	}
	for k := 1; k < len(p.Threads); k++ {
		p.Threads[0] = slices.Insert(p.Threads[0], s.below(k+2), at(api.Go, k))
	}
	return p
}

// choices are picks of threads of which one in each dozen or so is none that there is, each so far back.
func (s *sequence) choices(n, most int) []api.Choice {
	l := make([]api.Choice, s.below(most+1))
	for at := range l {
		l[at] = api.Choice{Thread: s.below(n), Back: s.below(6) - 1}
		if s.below(12) == 0 {
			l[at].Thread = []int{-1, n, n + 1, math.MinInt, math.MaxInt}[s.below(5)]
		}
		if s.below(20) == 0 {
			l[at].Back = odd[s.below(len(odd))]
		}
	}
	return l
}

// stepped is what choices come to, by steps of a state: what a load reads is worked out ahead of its step.
func stepped(t *testing.T, p api.Program, l []api.Choice) api.Result {
	t.Helper()
	s := state.New(p)
	if s == nil {
		t.Fatalf("no state of %v", p)
	}
	var r api.Result
	for _, c := range l {
		if !s.Can(c.Thread) {
			continue
		}
		i := p.Threads[c.Thread][s.Pc(c.Thread)]
		v := 0
		if i.Op == api.Load {
			all := account(p, r.Trace, c.Thread, i.B)
			n := 0
			if c.Back > 0 {
				n = c.Back % len(all)
			}
			if all[n] >= 0 {
				v = r.Trace[all[n]].Value
			}
		}
		e, _ := s.Step(c.Thread)
		switch i.Op {
		case api.Load:
			e.Value = v
			s.Set(c.Thread, i.A, v)
		case api.Print:
			r.Prints = append(r.Prints, e.Value)
		}
		r.Picks = append(r.Picks, c.Thread)
		r.Trace = append(r.Trace, e)
	}
	r.Status = s.Status()
	return r
}

func TestRunAgainstSteps(t *testing.T) {
	statuses := map[uint8]int{}
	picked, none, other := 0, 0, 0
	q := sequence(91)
	for range 2500 {
		p := q.program(0)
		l := q.choices(len(p.Threads), 150)
		got := runs(t, p, l...)
		if want := stepped(t, p, l); !same(got, want) {
			t.Fatalf("%v by %v: %v, not %v", p, l, got, want)
		}
		if !same(got, plays(t, p, threads(l)...)) {
			other++
		}
		statuses[got.Status]++
		picked += len(got.Picks)
		none += len(l) - len(got.Picks)
	}
	if len(statuses) != 4 || picked < 10000 || none < 10000 || other < 500 {
		t.Errorf("not all was met: statuses %v, %d steps, %d picks that were none, %d runs that were weak", statuses, picked, none, other)
	}
}

// T4: where the run of the same picks does not race, it is that run, whatever loads read.
func TestWhereNothingRacesNothingIsWeak(t *testing.T) {
	q := sequence(92)
	loads, raced, weakened := 0, 0, 0
	for range 6000 {
		p := q.program(q.below(9))
		l := q.choices(len(p.Threads), 100)
		want := plays(t, p, threads(l)...)
		got := runs(t, p, l...)
		if race.Racy(p, want.Trace) {
			raced++
			if !same(got, want) {
				weakened++
			}
			continue
		}
		if !same(got, want) {
			t.Fatalf("%v by %v: %v, not %v", p, l, got, want)
		}
		loads += crossed(want.Trace)
	}
	if loads < 200 || raced < 1000 || weakened < 500 {
		t.Errorf("not all was met: %d loads of what others stored, %d runs that race, %d of them weak", loads, raced, weakened)
	}
}

// crossed is how many loads read what another thread stored last.
func crossed(l []api.Event) int {
	last := map[int]int{}
	n := 0
	for _, e := range l {
		switch e.Op {
		case api.Store:
			last[e.Obj] = e.Thread + 1
		case api.Load:
			if by := last[e.Obj]; by != 0 && by != e.Thread+1 {
				n++
			}
		}
	}
	return n
}

// guarded is a program whose threads touch its variables under locks, or hand them on, so that no run of it races.
func guarded() api.Program {
	turn := func(k int) []api.Ins {
		return []api.Ins{at(api.Recv, 2, 0), at(api.Lock, 0), at(api.Load, 1, 0), at(api.Const, 0, k), at(api.Add, 1, 1, 0), at(api.Store, 0, 1), at(api.Print, 1), at(api.Unlock, 0), at(api.RLock, 0), at(api.Load, 1, 0), at(api.Print, 1), at(api.RUnlock, 0), at(api.Load, 3, 1), at(api.Print, 3), at(api.Grow, 0, -1)}
	}
	main := []api.Ins{
		at(api.Const, 0, 8), at(api.Store, 1, 0), at(api.Grow, 0, 3), at(api.Go, 1), at(api.Go, 2), at(api.Go, 3),
		at(api.Send, 0, 0), at(api.Send, 0, 0), at(api.Close, 0), at(api.Wait, 0), at(api.Load, 1, 0), at(api.Print, 1), at(api.Store, 1, 1), at(api.Load, 1, 1), at(api.Print, 1),
	}
	return many(main, turn(1), turn(10), turn(100))
}

// The same, of a program that never races, however it is played.
func TestNothingIsWeakUnderLocks(t *testing.T) {
	q := sequence(93)
	done := 0
	for range 500 {
		p := guarded()
		l := q.choices(4, 250)
		want := plays(t, p, threads(l)...)
		if race.Racy(p, want.Trace) {
			t.Fatalf("it races: %v", want.Trace)
		}
		if got := runs(t, p, l...); !same(got, want) {
			t.Fatalf("by %v: %v, not %v", l, got, want)
		}
		if want.Status == api.Done {
			done++
		}
	}
	if done < 50 {
		t.Errorf("only %d runs came to the end", done)
	}
}

// A thread that is alone knows all that it did: it is play.Run, whatever the choices.
func TestOneThread(t *testing.T) {
	q := sequence(94)
	for range 1000 {
		p := q.program(0)
		p.Threads[0] = slices.DeleteFunc(p.Threads[0], func(i api.Ins) bool { return i.Op == api.Go || i.Op == api.Jump || i.Op == api.Zero })
		p.Threads = p.Threads[:1]
		l := q.choices(1, 40)
		tells(t, runs(t, p, l...), plays(t, p, threads(l)...))
		for n := range l {
			l[n].Back = 0
		}
		tells(t, runs(t, p, l...), plays(t, p, threads(l)...))
	}
}

// Of what may be read the first is always what was stored last: with nothing to go back, or below, it is play.Run of many threads too.
func TestNothingToGoBack(t *testing.T) {
	q := sequence(95)
	for range 1000 {
		p := q.program(0)
		l := q.choices(len(p.Threads), 60)
		for n := range l {
			l[n].Back = min(l[n].Back, 0)
		}
		tells(t, runs(t, p, l...), plays(t, p, threads(l)...))
	}
}

// Going round by as many as there are changes nothing.
func TestBackGoesRound(t *testing.T) {
	q := sequence(96)
	for range 500 {
		p := q.program(0)
		l := q.choices(len(p.Threads), 40)
		got := runs(t, p, l...)
		trace := got.Trace
		var less []api.Choice
		for _, c := range l {
			if len(trace) == 0 {
				break
			}
			done := len(got.Trace) - len(trace)
			if c.Thread != trace[0].Thread || !steps(p, got.Picks[:done], less, c.Thread) {
				continue
			}
			if e := trace[0]; e.Op == api.Load {
				c.Back = max(c.Back, 0) % len(weak.May(p, got.Trace[:done], e.Thread, e.Obj))
			}
			less = append(less, c)
			trace = trace[1:]
		}
		tells(t, runs(t, p, less...), got)
	}
}

// steps says whether a pick is a step, behind choices that were.
func steps(p api.Program, picks []int, l []api.Choice, k int) bool {
	r, e := weak.Run(p, append(slices.Clone(l), api.Choice{Thread: k}))
	return e == api.OK && len(r.Picks) == len(picks)+1
}

// Each load reads one of those that it may read, and by its Back each of them.
func TestEachThatMayBeReadIsRead(t *testing.T) {
	q := sequence(97)
	most := 0
	for range 300 {
		p := q.program(0)
		l := q.choices(len(p.Threads), 120)
		for n := range l {
			got := runs(t, p, l[:n+1]...)
			last := len(got.Trace) - 1
			if last < 0 || got.Trace[last].Op != api.Load || len(runs(t, p, l[:n]...).Trace) != last {
				continue
			}
			all := weak.May(p, got.Trace[:last], got.Trace[last].Thread, got.Trace[last].Obj)
			most = max(most, len(all))
			for back, i := range all {
				c := slices.Clone(l[:n+1])
				c[n].Back = back
				e := got.Trace[last]
				e.Value = 0
				if i >= 0 {
					e.Value = got.Trace[i].Value
				}
				if read := runs(t, p, c...).Trace[last]; read != e {
					t.Fatalf("%v by %v: %v, not %v", p, c, read, e)
				}
			}
		}
	}
	if most < 5 {
		t.Errorf("no load may read more than %d", most)
	}
}

// roomy is a list in a longer memory, which has others ahead of it and behind it; the whole is handed out beside it.
func roomy[T any](list []T, others ...T) (in, whole []T) {
	whole = slices.Concat(others, list, others)
	return whole[len(others) : len(others)+len(list)], whole
}

// spoil writes over a list, and over all the memory behind it.
func spoil[T any](list []T, with T) {
	list = list[:cap(list)]
	for at := range list {
		list[at] = with
	}
}

func TestMemoryOfMay(t *testing.T) {
	s := sequence(98)
	for range 1500 {
		c, l := s.chans(), s.trace(20)
		most, wholeC := roomy(c, 1, 0, 2)
		events, wholeL := roomy(l, store(0), store(1), of(0, api.Unlock, 0), load(1))
		wasC, wasL := slices.Clone(wholeC), slices.Clone(wholeL)
		for k := range 3 {
			want := account(chans(c...), l, k, 0)
			may(t, chans(most...), events, k, 0, want...)
			// One that is spoilt ahead of the next call shows what they share.
			spoil(weak.May(chans(most...), events, k, 0), -7)
			may(t, chans(most...), events, k, 0, want...)
		}
		if !slices.Equal(wholeC, wasC) || !slices.Equal(wholeL, wasL) {
			t.Fatalf("%v or %v was changed", c, l)
		}
	}
}

// given is a program in memory that has more behind all of its lists, and a copy of all that memory.
func given(p api.Program) (api.Program, func() bool) {
	strange := at(200, -1, -1, -1)
	chans, wholeC := roomy(p.Chans, 0, 99)
	var codes [][]api.Ins
	var memory, was [][]api.Ins
	for _, code := range p.Threads {
		in, whole := roomy(code, strange, at(api.Load, 0, 0))
		codes, memory, was = append(codes, in), append(memory, whole), append(was, slices.Clone(whole))
	}
	list, wholeT := roomy(codes, []api.Ins{strange})
	wasC, n := slices.Clone(wholeC), len(p.Threads)
	p.Chans, p.Threads = chans, list
	return p, func() bool {
		kept := slices.Equal(wholeC, wasC) && len(wholeT) == n+2
		for k := range memory {
			kept = kept && slices.Equal(memory[k], was[k]) && slices.Equal(wholeT[k+1], codes[k])
		}
		return kept && slices.Equal(wholeT[0], []api.Ins{strange}) && slices.Equal(wholeT[n+1], []api.Ins{strange})
	}
}

func TestMemoryOfRun(t *testing.T) {
	q := sequence(99)
	for range 600 {
		p := q.program(0)
		l := q.choices(len(p.Threads), 40)
		want := stepped(t, p, l)
		program, kept := given(p)
		choices, whole := roomy(l, api.Choice{Back: 1}, api.Choice{Thread: 1})
		was := slices.Clone(whole)
		got := runs(t, program, choices...)
		tells(t, got, want)
		// Each list that is spoilt leaves the others, and the next call, as they were.
		spoil(got.Prints, -7)
		tells(t, api.Result{Prints: want.Prints, Status: got.Status, Picks: got.Picks, Trace: got.Trace}, want)
		spoil(got.Picks, -7)
		tells(t, api.Result{Prints: want.Prints, Status: got.Status, Picks: want.Picks, Trace: got.Trace}, want)
		spoil(got.Trace, api.Event{Thread: -7})
		tells(t, runs(t, program, choices...), want)
		if !kept() || !slices.Equal(whole, was) {
			t.Fatalf("%v, by %v, is now %v, by %v", p, l, program, choices)
		}
	}
}

// What was handed in is not kept: the next call goes by what it is then.
func TestWhatIsHandedInIsNotKept(t *testing.T) {
	p, l := example(), append(by(0, 1, 1, 1, 1), api.Choice{Back: 1}, api.Choice{})
	was, want := runs(t, p, l...), runs(t, example(), l...)
	p.Threads[1][0].B = 9
	l[5].Back = 0
	tells(t, was, want)
	prints(t, p, l, 6)
	l[5].Back = 1
	prints(t, p, l, 9)
}

// TestQuickly makes the longest runs, in which each load asks what it may read behind all that was, and traces beyond them.
func TestQuickly(t *testing.T) {
	begun := time.Now()
	q := sequence(100)
	store, tell := at(api.Store, 0, 0), []api.Ins{at(api.Lock), at(api.Load, 0, 0), at(api.Unlock)}
	main := []api.Ins{at(api.Go, 1), at(api.Go, 2), at(api.Go, 3), at(api.Go, 4), at(api.Go, 5)}
	main = append(slices.Concat(main, tell, tell, tell), at(api.Jump, 5))
	p := many(main)
	for range 5 {
		p.Threads = append(p.Threads, []api.Ins{store, at(api.RLock), at(api.RUnlock), store, at(api.Load, 0, 0), at(api.Jump, 0)})
	}
	for range 4 {
		l := by(0, 0, 0, 0, 0)
		for len(l) < api.MaxScript {
			l = append(l, api.Choice{Thread: q.below(6), Back: 1 + q.below(2000)})
		}
		r := runs(t, p, l...)
		if len(r.Trace) < api.MaxScript/2 {
			t.Errorf("only %d steps", len(r.Trace))
		}
	}
	for _, ops := range kinds() {
		l := make([]api.Event, 20000)
		for n := range l {
			l[n] = q.event(api.MaxThreads, 3, ops)
		}
		for k := range 3 {
			if len(weak.May(chans(1, 2, 3), l, k, 0)) == 0 {
				t.Errorf("nothing may be read")
			}
		}
	}
	if took := time.Since(begun); took > 30*time.Second {
		t.Errorf("it took %v", took)
	}
}

// anything holds both calls to what holds whatever they are given.
func anything(t *testing.T, p api.Program, l []api.Choice, events []api.Event) {
	t.Helper()
	switch {
	case state.New(p) == nil:
		refuses(t, p, l, api.ErrArg)
	case len(l) > api.MaxScript:
		refuses(t, p, l, api.ErrLong)
	default:
		tells(t, runs(t, p, l...), stepped(t, p, l))
	}
	for _, c := range append(slices.Clone(l[:min(len(l), 3)]), api.Choice{}) {
		may(t, p, events, c.Thread, c.Back, account(p, events, c.Thread, c.Back)...)
	}
	for _, e := range events[:min(len(events), 3)] {
		may(t, p, events, e.Thread, e.Obj, account(p, events, e.Thread, e.Obj)...)
	}
}

// Programs that are mostly not sound, with numbers from everywhere.
func TestAnything(t *testing.T) {
	q := sequence(101)
	number := func() int { return odd[q.below(len(odd))] }
	for range 2000 {
		p := q.program(0)
		switch q.below(5) {
		case 0:
			p.Vars, p.Groups = number(), number()
		case 1:
			p.Chans = append(p.Chans, number())
		case 2:
			k := q.below(len(p.Threads))
			p.Threads[k] = append(p.Threads[k], api.Ins{Op: uint8(q.below(256)), A: number(), B: number(), C: number()})
		case 3:
			p.Threads = slices.Repeat(p.Threads, q.below(4))
		}
		l := q.choices(6, 30)
		if q.below(20) == 0 {
			l = times(api.MaxScript+q.below(2)*4, api.Choice{Thread: 7, Back: number()})
		}
		for range q.below(5) {
			l = append(l, api.Choice{Thread: number(), Back: number()})
		}
		anything(t, p, l, q.trace(12))
	}
}

// No program, choices or events make a call panic, and where there is an error nothing is told.
func FuzzAnything(f *testing.F) {
	f.Add([]byte{1, 0, 0, 0, 0, 0, 2, 3, 12, 1, 0, 0, 7, 0, 0, 0, 9, 0, 0, 0, 1, 8, 0, 0, 0, 3, 0, 0, 1, 0, 0, 1})
	f.Add([]byte{255, 128, 3, 4, 10, 0})
	f.Fuzz(func(t *testing.T, data []byte) {
		at := 0
		next := func() int {
			if at >= len(data) {
				return 0
			}
			at++
			return int(int8(data[at-1]))
		}
		p := api.Program{Vars: next(), Atoms: next(), Locks: next(), Groups: next(), Onces: next()}
		for range next() & 7 {
			p.Chans = append(p.Chans, next())
		}
		for range next() & 7 {
			var code []api.Ins
			for range next() & 63 {
				code = append(code, api.Ins{Op: uint8(next()), A: next(), B: next(), C: next()})
			}
			p.Threads = append(p.Threads, code)
		}
		var l []api.Choice
		for range next() & 31 {
			l = append(l, api.Choice{Thread: next(), Back: next()})
		}
		var events []api.Event
		for at < len(data) && len(events) < 30 {
			events = append(events, api.Event{Thread: next(), Op: uint8(next()), Obj: next(), Value: next(), Mode: next()})
		}
		anything(t, p, l, events)
	})
}
