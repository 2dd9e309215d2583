package order_test

import (
	"math"
	"slices"
	"testing"

	"interlock/api"
	"interlock/order"
	"interlock/play"
)

// account is a second one of the layer, written as the chapter has it.
type account struct {
	p api.Program
	t []api.Event
}

// taking says whether something of x was taken from a channel.
func taking(e api.Event, x int) bool {
	return (e.Op == api.Recv || e.Op == api.Poll) && e.Mode == 1 && e.Obj == x
}

// sends and takings are how many of x there are ahead of a place.
func (c account) sends(x, end int) int {
	n := 0
	for _, e := range c.t[:end] {
		if e.Op == api.Send && e.Obj == x {
			n++
		}
	}
	return n
}

func (c account) takings(x, end int) int {
	n := 0
	for _, e := range c.t[:end] {
		if taking(e, x) {
			n++
		}
	}
	return n
}

// hidden says whether x is written between two places.
func (c account) hidden(x, i, j int) bool {
	return slices.ContainsFunc(c.t[i+1:j], func(e api.Event) bool {
		return (e.Op == api.Write || e.Op == api.Bump) && e.Obj == x
	})
}

// rules says by which of the nine one event is ahead of a later one.
func (c account) rules(i, j int) [9]bool {
	a, b := c.t[i], c.t[j]
	x, same := a.Obj, a.Obj == b.Obj
	room := 0
	for at, most := range c.p.Chans {
		if at == x {
			room = most
		}
	}
	return [9]bool{
		a.Thread == b.Thread,
		a.Op == api.Go && a.Obj == b.Thread,
		same && (a.Op == api.Unlock && (b.Op == api.Lock || b.Op == api.RLock) || a.Op == api.RUnlock && b.Op == api.Lock),
		same && (a.Op == api.Write || a.Op == api.Bump) && (b.Op == api.Read || b.Op == api.Bump) && !c.hidden(x, i, j),
		same && a.Op == api.Send && taking(b, x) && c.sends(x, i) == c.takings(x, j),
		same && taking(a, x) && b.Op == api.Send && c.takings(x, i)+room == c.sends(x, j),
		same && a.Op == api.Close && (b.Op == api.Recv || b.Op == api.Poll) && b.Mode == 2,
		same && a.Op == api.Grow && a.Value < 0 && b.Op == api.Wait,
		same && a.Op == api.End && b.Op == api.Begin && b.Mode == 0,
	}
}

// meets counts, rule by rule, the pairs of events that it speaks of.
func (c account) meets(by *[9]int) {
	for j := range c.t {
		for i := range j {
			for rule, is := range c.rules(i, j) {
				if is {
					by[rule]++
				}
			}
		}
	}
}

// table is what is Direct of what, and Before of what; rows through others are found by trying each as the one between.
func (c account) table() (direct, before [][]bool) {
	n := len(c.t)
	direct, before = make([][]bool, n), make([][]bool, n)
	for i := range n {
		direct[i], before[i] = make([]bool, n), make([]bool, n)
		for j := i + 1; j < n; j++ {
			is := c.rules(i, j)
			direct[i][j] = slices.Contains(is[:], true)
		}
		copy(before[i], direct[i])
	}
	for k := range n {
		for i := range n {
			for j := range n {
				before[i][j] = before[i][j] || before[i][k] && before[k][j]
			}
		}
	}
	return direct, before
}

// agrees holds all three calls to the second account, for all places of a trace and those beside it.
func agrees(t *testing.T, p api.Program, l []api.Event) {
	t.Helper()
	direct, before := account{p, l}.table()
	for j := -2; j < len(l)+2; j++ {
		var ahead []int
		for i := -2; i < len(l)+2; i++ {
			inside := 0 <= i && i < len(l) && 0 <= j && j < len(l)
			if must := inside && direct[i][j]; order.Direct(p, l, i, j) != must {
				t.Fatalf("Direct of %d and %d of %v, with channels %v: %t", i, j, l, p.Chans, !must)
			}
			must := inside && before[i][j]
			if order.Before(p, l, i, j) != must {
				t.Fatalf("Before of %d and %d of %v, with channels %v: %t", i, j, l, p.Chans, !must)
			}
			if must {
				ahead = append(ahead, i)
			}
		}
		if got := order.Past(p, l, j); !slices.Equal(got, ahead) {
			t.Fatalf("Past of %d of %v, with channels %v: %v, not %v", j, l, p.Chans, got, ahead)
		}
	}
}

// sequence is a row of numbers that hangs on nothing but where it began.
type sequence uint64

// below is the next number, from 0 to n - 1.
func (s *sequence) below(n int) int {
	*s = *s*6364136223846793005 + 1442695040888963407
	return int(uint64(*s) >> 33 % uint64(n))
}

// event is one of threads and things of so many kinds; it need not be one that a run could have.
func (s *sequence) event(threads, things int, ops []uint8) api.Event {
	e := api.Event{
		Thread: s.below(threads),
		Pc:     s.below(3),
		Op:     ops[s.below(len(ops))],
		Obj:    s.below(things) - s.below(2),
		Value:  s.below(3) - 1,
		Mode:   s.below(3),
	}
	if s.below(40) == 0 {
		odd := []int{-1, 3, 64, math.MinInt, math.MaxInt}
		for _, to := range []*int{&e.Thread, &e.Obj, &e.Value, &e.Mode} {
			if s.below(2) == 0 {
				*to = odd[s.below(len(odd))]
			}
		}
	}
	return e
}

// trace is some events: of all instructions, or of those that belong together.
func (s *sequence) trace(most int) []api.Event {
	groups := [][]uint8{
		allOps(),
		{api.Unlock, api.Lock, api.RLock, api.RUnlock, api.Load, api.Store},
		{api.Write, api.Read, api.Bump},
		{api.Send, api.Recv, api.Poll, api.Close},
		{api.Send, api.Recv},
		{api.Grow, api.Wait, api.Begin, api.End, api.Go},
		{api.Send, api.Recv, api.Write, api.Read, api.Lock, api.Unlock, api.Nop},
	}
	ops := groups[s.below(len(groups))]
	threads, things := 1+s.below(20), 1+s.below(3)
	l := make([]api.Event, s.below(most+1))
	for at := range l {
		l[at] = s.event(threads, things, ops)
	}
	return l
}

// chans are some channels, of which one may hold what none can.
func (s *sequence) chans() []int {
	l := make([]int, s.below(4))
	for at := range l {
		l[at] = s.below(4)
		if s.below(10) == 0 {
			l[at] = []int{-1, -3, 60, math.MinInt, math.MaxInt}[s.below(5)]
		}
	}
	return l
}

func TestAgainstAccount(t *testing.T) {
	var by [9]int
	s := sequence(7)
	for range 2000 {
		p, l := chans(s.chans()...), s.trace(24)
		agrees(t, p, l)
		account{p, l}.meets(&by)
	}
	if slices.Min(by[:]) < 100 {
		t.Errorf("not all was met: %v", by)
	}
}

// work is a program whose threads take turns with all that there is, so that runs of it go by all rules.
func work() api.Program {
	at := func(op uint8, abc ...int) api.Ins {
		i := api.Ins{Op: op}
		for k, to := range []*int{&i.A, &i.B, &i.C}[:len(abc)] {
			*to = abc[k]
		}
		return i
	}
	first := []api.Ins{
		at(api.Grow, 0, 2), at(api.Go, 1), at(api.Go, 2), at(api.Begin, 0, 0), at(api.Zero, 0, 6), at(api.End, 0),
		at(api.Const, 1, 1), at(api.Send, 0, 1), at(api.Send, 0, 1), at(api.Send, 0, 1), at(api.Close, 0),
		at(api.Lock, 0), at(api.Store, 0, 1), at(api.Unlock, 0), at(api.Wait, 0), at(api.Load, 2, 0), at(api.Bump, 2, 0, 1),
	}
	others := []api.Ins{
		at(api.Begin, 0, 0), at(api.Zero, 0, 3), at(api.End, 0),
		at(api.Recv, 1, 0), at(api.Poll, 1, 0, 2), at(api.Recv, 1, 0), at(api.Recv, 1, 0), at(api.RLock, 0), at(api.Load, 3, 0), at(api.RUnlock, 0), at(api.Bump, 2, 0, 1), at(api.Read, 2, 0),
		at(api.Write, 0, 2), at(api.Lock, 0), at(api.Store, 0, 1), at(api.Unlock, 0), at(api.Grow, 0, -1),
	}
	return api.Program{Vars: 1, Atoms: 1, Locks: 1, Chans: []int{1}, Groups: 1, Onces: 1, Threads: [][]api.Ins{first, others, others}}
}

func TestRuns(t *testing.T) {
	p := work()
	var by [9]int
	s := sequence(70)
	for range 60 {
		script := make([]int, 150)
		for at := range script {
			script[at] = s.below(3)
		}
		r, e := play.Run(p, script)
		if e != api.OK {
			t.Fatal(e)
		}
		agrees(t, p, r.Trace)
		account{p, r.Trace}.meets(&by)
	}
	if slices.Min(by[:]) < 50 {
		t.Errorf("not all was met: %v", by)
	}
}

// No event is ahead of itself, and what is ahead of one is ahead of all that this one is ahead of.
func TestItIsAnOrder(t *testing.T) {
	s := sequence(700)
	for range 600 {
		p, l := chans(s.chans()...), s.trace(30)
		for j := range l {
			if order.Direct(p, l, j, j) || order.Before(p, l, j, j) {
				t.Fatalf("%d of %v is ahead of itself", j, l)
			}
			past := order.Past(p, l, j)
			for _, k := range past {
				if k >= j || order.Before(p, l, j, k) {
					t.Fatalf("Past of %d of %v: %v", j, l, past)
				}
				for _, i := range order.Past(p, l, k) {
					if !slices.Contains(past, i) || !order.Before(p, l, i, j) {
						t.Fatalf("%d, ahead of %d, is not ahead of %d: %v", i, k, j, l)
					}
				}
			}
		}
	}
}

// roomy is a list in a longer memory, which has others ahead of it and behind it; the whole is handed out beside it.
func roomy[T any](list []T, others ...T) (in, whole []T) {
	whole = slices.Concat(others, list, others)
	return whole[len(others) : len(others)+len(list)], whole
}

func TestMemory(t *testing.T) {
	s := sequence(7000)
	for range 500 {
		c, l := s.chans(), s.trace(16)
		most, wholeC := roomy(c, 1, 0, 2)
		events, wholeL := roomy(l, s.event(3, 2, allOps()), s.event(3, 2, allOps()), of(0, api.Go, 1), of(0, api.Write, 0))
		wasC, wasL := slices.Clone(wholeC), slices.Clone(wholeL)
		agrees(t, chans(most...), events)
		p, q := api.Program{Chans: most}, api.Program{Chans: c}
		for j := range len(l) + 3 {
			for i := range len(l) + 3 {
				if order.Direct(p, events, i, j) != order.Direct(q, l, i, j) || order.Before(p, events, i, j) != order.Before(q, l, i, j) {
					t.Fatalf("what lies behind %v or %v was read", l, c)
				}
			}
			first, second := order.Past(p, events, j), order.Past(q, l, j)
			if !slices.Equal(first, second) {
				t.Fatalf("Past of %d of %v: %v, not %v", j, l, first, second)
			}
			// One that is spoilt ahead of the next call shows what they share.
			for at := range first[:cap(first)] {
				first[:cap(first)][at] = -7
			}
			if !slices.Equal(order.Past(p, events, j), second) {
				t.Fatalf("Past of %d of %v hangs on what was handed out", j, l)
			}
		}
		if !slices.Equal(wholeC, wasC) || !slices.Equal(wholeL, wasL) {
			t.Fatalf("%v or %v was changed", c, l)
		}
	}
}

// Long traces in which each event hears of most others are gone back through once.
func TestLongTraces(t *testing.T) {
	const n = 20000
	for _, ops := range [][]uint8{
		{api.Unlock, api.Lock},
		{api.RUnlock, api.Lock, api.Unlock, api.RLock},
		{api.Bump, api.Write, api.Read},
		{api.Send, api.Recv},
		{api.Close, api.Poll},
		{api.Grow, api.Wait},
		{api.End, api.Begin},
		{api.Go, api.Nop},
	} {
		for _, threads := range []int{1, 2, 3, 1000, n} {
			l := make([]api.Event, n)
			for at := range l {
				l[at] = api.Event{Thread: at % threads, Op: ops[at/3%len(ops)], Obj: at % 2, Value: -1, Mode: 2}
				if ops[0] == api.End {
					l[at].Mode = 0
				}
				if ops[0] == api.Send {
					l[at].Mode = 1
				}
			}
			past := order.Past(chans(3, 3), l, n-1)
			if threads == 1 && len(past) != n-1 {
				t.Errorf("%v, one thread: %d are ahead", ops, len(past))
			}
			for _, i := range []int{0, 1, n / 2, n - 2} {
				if order.Before(chans(3, 3), l, i, n-1) != slices.Contains(past, i) {
					t.Errorf("%v, %d threads: Before of %d", ops, threads, i)
				}
			}
		}
	}
}

// No trace makes a call panic.
func FuzzAnything(f *testing.F) {
	f.Add([]byte{1, 2, 0, 0, 0, 12, 1, 0, 0, 9}, 5, 6)
	f.Add([]byte{255, 128, 3, 4, 10, 0}, -1, 0)
	f.Fuzz(func(t *testing.T, data []byte, i, j int) {
		at := 0
		next := func() int {
			if at >= len(data) {
				return 0
			}
			at++
			return int(int8(data[at-1]))
		}
		var p api.Program
		for range next() & 3 {
			p.Chans = append(p.Chans, next())
		}
		var l []api.Event
		for at < len(data) && len(l) < 40 {
			l = append(l, api.Event{Thread: next(), Op: uint8(next()), Obj: next(), Value: next(), Mode: next()})
		}
		agrees(t, p, l)
		if inside := 0 <= i && i < j && j < len(l); !inside && (order.Direct(p, l, i, j) || order.Before(p, l, i, j)) {
			t.Fatalf("%d and %d of %d", i, j, len(l))
		}
		order.Past(p, l, i)
	})
}
