package race_test

import (
	"math"
	"slices"
	"testing"
	"time"

	"interlock/api"
	"interlock/order"
	"interlock/play"
	"interlock/race"
)

// account is a second one of the layer, written as the chapter has it.
type account struct {
	p api.Program
	t []api.Event
}

func (c account) conflict(i, j int) bool {
	a, b := c.t[i], c.t[j]
	touches := func(e api.Event) bool { return e.Op == api.Load || e.Op == api.Store }
	return touches(a) && touches(b) && a.Obj == b.Obj && (a.Op == api.Store || b.Op == api.Store) && a.Thread != b.Thread
}

// fits says whether races are told of the trace at all.
func (c account) fits() bool {
	for _, e := range c.t {
		if e.Thread < 0 || e.Thread > 5 {
			return false
		}
	}
	return len(c.t) <= 2000
}

// find is what Find must tell; met counts pairs that it asks order of: those in no order, and those in order.
func (c account) find(met *[2]int) []api.Race {
	if !c.fits() {
		return nil
	}
	var races []api.Race
	for j := range c.t {
		for k := range 6 {
			last := -1
			for i := range j {
				if c.t[i].Thread == k && c.conflict(i, j) {
					last = i
				}
			}
			if last < 0 {
				continue
			}
			if order.Before(c.p, c.t, last, j) {
				met[1]++
			} else {
				met[0]++
				races = append(races, api.Race{First: last, Second: j})
			}
		}
	}
	return races
}

// unordered says whether any two events that conflict are in no order.
func (c account) unordered() bool {
	for j := range c.t {
		past := order.Past(c.p, c.t, j)
		for i := range j {
			if c.conflict(i, j) && !slices.Contains(past, i) {
				return true
			}
		}
	}
	return false
}

// agrees holds both calls to the second account, and to what the chapter says of any two that conflict.
func agrees(t *testing.T, p api.Program, l []api.Event, met *[2]int) {
	t.Helper()
	c := account{p, l}
	want := c.find(met)
	if got := race.Find(p, l); !slices.Equal(got, want) {
		t.Fatalf("Find of %v, with channels %v: %v, not %v", l, p.Chans, got, want)
	}
	if got := race.Racy(p, l); got != (len(want) > 0) || c.fits() && got != c.unordered() {
		t.Fatalf("Racy of %v, with channels %v: %t", l, p.Chans, got)
	}
}

// sequence is a row of numbers that hangs on nothing but where it began.
type sequence uint64

// below is the next number, from 0 to n - 1.
func (s *sequence) below(n int) int {
	*s = *s*6364136223846793005 + 1442695040888963407
	return int(uint64(*s) >> 33 % uint64(n))
}

// kinds are instructions that belong together, and all of them.
func kinds() [][]uint8 {
	return [][]uint8{
		allOps(),
		{api.Unlock, api.Lock, api.RLock, api.RUnlock},
		{api.Write, api.Read, api.Bump},
		{api.Send, api.Recv, api.Poll, api.Close},
		{api.Send, api.Recv},
		{api.Grow, api.Wait, api.Begin, api.End, api.Go},
		{api.Send, api.Recv, api.Write, api.Read, api.Lock, api.Unlock, api.Nop},
	}
}

// event is one of threads and things of so many kinds; it need not be one that a run could have. Each fifth touches a variable.
func (s *sequence) event(threads, things int, ops []uint8) api.Event {
	e := api.Event{
		Thread: s.below(threads),
		Pc:     s.below(3),
		Op:     ops[s.below(len(ops))],
		Obj:    s.below(things) - s.below(2),
		Value:  s.below(3) - 1,
		Mode:   s.below(3),
	}
	if s.below(5) == 0 {
		e.Op = []uint8{api.Load, api.Load, api.Store}[s.below(3)]
	}
	if s.below(40) == 0 {
		for _, to := range []*int{&e.Obj, &e.Value, &e.Mode} {
			if s.below(2) == 0 {
				*to = odd[s.below(len(odd))]
			}
		}
	}
	return e
}

// trace is so many events at most, of all instructions, or of those that belong together; now and then one is of a thread that there is not.
func (s *sequence) trace(most int) []api.Event {
	all := kinds()
	ops := all[s.below(len(all))]
	threads, things := 2+s.below(1+s.below(api.MaxThreads-1)), 1+s.below(3)
	l := make([]api.Event, s.below(most+1))
	for at := range l {
		l[at] = s.event(threads, things, ops)
	}
	if len(l) > 0 && s.below(30) == 0 {
		l[s.below(len(l))].Thread = odd[s.below(len(odd))]
	}
	return l
}

// chans are some channels, of which one may hold what none can.
func (s *sequence) chans() []int {
	l := make([]int, s.below(4))
	for at := range l {
		l[at] = s.below(4)
		if s.below(10) == 0 {
			l[at] = []int{-1, -3, 60, math.MinInt, math.MaxInt}[s.below(5)]
		}
	}
	return l
}

func TestAgainstOrder(t *testing.T) {
	var met [2]int
	s := sequence(8)
	for range 6000 {
		agrees(t, chans(s.chans()...), s.trace(60), &met)
	}
	if slices.Min(met[:]) < 2000 {
		t.Errorf("not all was met: %v", met)
	}
}

func TestAgainstOrderInLongTraces(t *testing.T) {
	var met [2]int
	s := sequence(80)
	for _, ops := range kinds() {
		l := make([]api.Event, 300)
		for at := range l {
			l[at] = s.event(6, 3, ops)
		}
		agrees(t, chans(2, 1), l, &met)
	}
	if slices.Min(met[:]) < 250 {
		t.Errorf("not all was met: %v", met)
	}
}

// work is a program whose threads share all that there is; some of them touch its variable without being in order.
func work() api.Program {
	at := func(op uint8, abc ...int) api.Ins {
		i := api.Ins{Op: op}
		for k, to := range []*int{&i.A, &i.B, &i.C}[:len(abc)] {
			*to = abc[k]
		}
		return i
	}
	main := []api.Ins{
		at(api.Store, 1, 0), at(api.Grow, 0, 2), at(api.Go, 1), at(api.Go, 2), at(api.Begin, 0, 0), at(api.Zero, 0, 8), at(api.Store, 2, 0), at(api.End, 0),
		at(api.Const, 1, 1), at(api.Send, 0, 1), at(api.Store, 3, 1), at(api.Send, 0, 1), at(api.Send, 0, 1), at(api.Close, 0),
		at(api.Lock, 0), at(api.Store, 0, 1), at(api.Unlock, 0), at(api.Wait, 0), at(api.Load, 2, 0), at(api.Store, 4, 1), at(api.Bump, 2, 0, 1),
	}
	others := []api.Ins{
		at(api.Load, 0, 1), at(api.Begin, 0, 0), at(api.Zero, 0, 5), at(api.Store, 2, 0), at(api.End, 0), at(api.Load, 0, 2),
		at(api.Recv, 1, 0), at(api.Load, 2, 3), at(api.Poll, 1, 0, 2), at(api.Recv, 1, 0), at(api.RLock, 0), at(api.Load, 3, 0), at(api.RUnlock, 0),
		at(api.Load, 0, 4), at(api.Bump, 2, 0, 1), at(api.Read, 2, 0), at(api.Lock, 0), at(api.Store, 0, 1), at(api.Unlock, 0), at(api.Grow, 0, -1),
	}
	return api.Program{Vars: 5, Atoms: 1, Locks: 1, Chans: []int{1}, Groups: 1, Onces: 1, Threads: [][]api.Ins{main, others, others}}
}

func TestRuns(t *testing.T) {
	p := work()
	var met [2]int
	s := sequence(88)
	for range 100 {
		script := make([]int, 200)
		for at := range script {
			script[at] = s.below(3)
		}
		r, e := play.Run(p, script)
		if e != api.OK {
			t.Fatal(e)
		}
		agrees(t, p, r.Trace, &met)
	}
	if slices.Min(met[:]) < 100 {
		t.Errorf("not all was met: %v", met)
	}
}

// roomy is a list in a longer memory, which has others ahead of it and behind it; the whole is handed out beside it.
func roomy[T any](list []T, others ...T) (in, whole []T) {
	whole = slices.Concat(others, list, others)
	return whole[len(others) : len(others)+len(list)], whole
}

func TestMemory(t *testing.T) {
	s := sequence(888)
	for range 2000 {
		c, l := s.chans(), s.trace(30)
		most, wholeC := roomy(c, 1, 0, 2)
		events, wholeL := roomy(l, store(0), store(1), of(0, api.Unlock, 0), load(9))
		wasC, wasL := slices.Clone(wholeC), slices.Clone(wholeL)
		want := slices.Clone(race.Find(chans(c...), l))
		got := race.Find(chans(most...), events)
		if !slices.Equal(got, want) || race.Racy(chans(most...), events) != (len(want) > 0) {
			t.Fatalf("what lies behind %v or %v was read", l, c)
		}
		// One that is spoilt ahead of the next call shows what they share.
		got = got[:cap(got)]
		for at := range got {
			got[at] = api.Race{First: -7, Second: -7}
		}
		if !slices.Equal(race.Find(chans(most...), events), want) {
			t.Fatalf("Find of %v hangs on what was handed out", l)
		}
		if !slices.Equal(wholeC, wasC) || !slices.Equal(wholeL, wasL) {
			t.Fatalf("%v or %v was changed", c, l)
		}
	}
}

// TestQuickly goes through traces as long as there may be, each many times: going back through the order of events for each, it would take minutes.
func TestQuickly(t *testing.T) {
	s := sequence(8888)
	begun := time.Now()
	for _, ops := range kinds() {
		l := make([]api.Event, api.MaxScript)
		for at := range l {
			l[at] = s.event(6, 3, ops)
		}
		for range 30 {
			if (len(race.Find(chans(1, 2, 3), l)) > 0) != race.Racy(chans(1, 2, 3), l) {
				t.Fatalf("Racy of a long trace of %v", ops)
			}
		}
	}
	if took := time.Since(begun); took > 20*time.Second {
		t.Errorf("it took %v", took)
	}
}

// No trace makes a call panic.
func FuzzAnything(f *testing.F) {
	f.Add([]byte{1, 2, 0, 8, 0, 0, 0, 1, 7, 0, 0, 0})
	f.Add([]byte{0, 255, 128, 3, 4, 10, 0, 6, 9})
	f.Fuzz(func(t *testing.T, data []byte) {
		at := 0
		next := func() int {
			if at >= len(data) {
				return 0
			}
			at++
			return int(int8(data[at-1]))
		}
		var p api.Program
		for range next() & 3 {
			p.Chans = append(p.Chans, next())
		}
		var l []api.Event
		for at < len(data) && len(l) < 40 {
			l = append(l, api.Event{Thread: next(), Op: uint8(next()), Obj: next(), Value: next(), Mode: next()})
		}
		var met [2]int
		agrees(t, p, l, &met)
	})
}
