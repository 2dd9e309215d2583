package race_test

import (
	"math"
	"slices"
	"testing"

	"interlock/api"
	"interlock/race"
)

// first and second are the threads whose events between are to be in order; third comes between them.
const (
	first  = 2
	second = 4
	third  = 5
)

// ordered says whether what is between brings what the first thread did ahead of it in order with what the second one does behind it: there must be that race or none, for each two that conflict.
func ordered(t *testing.T, p api.Program, must bool, between ...api.Event) {
	t.Helper()
	const x = 77
	for _, ops := range [][2]uint8{{api.Store, api.Load}, {api.Load, api.Store}, {api.Store, api.Store}} {
		l := slices.Concat([]api.Event{of(first, ops[0], x)}, between, []api.Event{of(second, ops[1], x)})
		if must {
			finds(t, p, l)
		} else {
			finds(t, p, l, api.Race{First: 0, Second: len(l) - 1})
		}
	}
}

// joins holds what a and b must do, if the first thread does a ahead of what the second one does, b, to it: with another Obj they must not.
func joins(t *testing.T, a, b api.Event, must bool) {
	t.Helper()
	a.Thread, b.Thread = first, second
	for _, x := range []int{0, 3, 4, -1, 1 << 32, math.MinInt, math.MaxInt} {
		a.Obj, b.Obj = x, x
		ordered(t, api.Program{}, must, a, b)
		ordered(t, api.Program{}, false, b, a)
		b.Obj = x + 1
		if a.Op != api.Go {
			ordered(t, api.Program{}, false, a, b)
		}
	}
}

// leads says whether a is ahead of b by rules 3 to 9, if both are of one Obj, and nothing else is there.
func leads(a, b api.Event) bool {
	takes := func(e api.Event) bool { return (e.Op == api.Recv || e.Op == api.Poll) && e.Mode == 1 }
	finds := func(e api.Event) bool { return (e.Op == api.Recv || e.Op == api.Poll) && e.Mode == 2 }
	switch a.Op {
	case api.Unlock:
		return b.Op == api.Lock || b.Op == api.RLock
	case api.RUnlock:
		return b.Op == api.Lock
	case api.Write, api.Bump:
		return b.Op == api.Read || b.Op == api.Bump
	case api.Send:
		return takes(b)
	case api.Recv, api.Poll:
		return takes(a) && b.Op == api.Send
	case api.Close:
		return finds(b)
	case api.Grow:
		return a.Value < 0 && b.Op == api.Wait
	case api.End:
		return b.Op == api.Begin && b.Mode == 0
	}
	return false
}

// Of all that two threads may do to one thing, what the rules speak of brings order, and nothing else.
func TestAllTwos(t *testing.T) {
	met := map[uint8]int{}
	modes := []int{-1, 0, 1, 2, 3}
	for _, a := range allOps() {
		for _, b := range allOps() {
			if a == api.Go || b == api.Go || a == api.Load || a == api.Store || b == api.Load || b == api.Store {
				continue
			}
			for _, mode := range modes {
				for _, other := range modes {
					for _, v := range []int{-1, 0, 1} {
						one := api.Event{Thread: first, Op: a, Obj: 1, Value: v, Mode: mode}
						two := api.Event{Thread: second, Op: b, Obj: 1, Value: -v, Mode: other}
						must := leads(one, two)
						if must {
							met[a]++
						}
						ordered(t, api.Program{}, must, one, two)
						two.Obj = 2
						ordered(t, api.Program{}, false, one, two)
					}
				}
			}
		}
	}
	if len(met) != 10 {
		t.Errorf("what was met: %v", met)
	}
}

// Rule 1: a thread knows all that it did itself.
func TestOneThread(t *testing.T) {
	var l []api.Event
	for at := range 50 {
		l = append(l, of(3, []uint8{api.Store, api.Load, api.Nop, 200}[at%4], 0))
	}
	finds(t, api.Program{}, l)
	// What it hears of goes on to all that it does behind, and not to what it did ahead.
	ordered(t, api.Program{}, true, of(first, api.Unlock, 0), of(second, api.Lock, 0), of(second, api.Nop, 0), of(second, api.Send, 1))
	ordered(t, api.Program{}, true, of(first, api.Nop, 0), of(first, api.Unlock, 0), of(second, api.Lock, 0))
	finds(t, api.Program{}, []api.Event{store(0), of(0, api.Unlock, 0), load(1), of(1, api.Lock, 0), load(1)}, api.Race{First: 0, Second: 2})
}

// Rule 2: what begins a thread is ahead of all that it does behind that.
func TestGo(t *testing.T) {
	p := api.Program{}
	ordered(t, p, true, of(first, api.Go, second))
	ordered(t, p, true, of(first, api.Go, second), of(second, api.Nop, 0))
	// So is one that begins it, though others did already, and though it went on.
	ordered(t, p, true, of(1, api.Go, second), of(second, api.Nop, 0), of(first, api.Go, second))
	ordered(t, p, true, of(first, api.Go, second), of(1, api.Go, second))
	for _, x := range odd {
		if x != second {
			ordered(t, p, false, of(first, api.Go, x))
		}
	}
	ordered(t, p, false, of(second, api.Go, first))
	ordered(t, p, false, of(third, api.Go, second))
	// What the thread does behind it is not ahead of what the other does.
	finds(t, p, []api.Event{of(0, api.Go, 1), store(0), load(1)}, api.Race{First: 1, Second: 2})
	finds(t, p, []api.Event{store(1), of(0, api.Go, 1), load(0)}, api.Race{First: 0, Second: 2})
	// One that begins itself hears of nothing, and forgets nothing.
	finds(t, p, []api.Event{store(0), of(0, api.Go, 1), load(1), of(1, api.Go, 1), load(1)})
}

// Rule 3.
func TestLocks(t *testing.T) {
	p := api.Program{}
	unlock, lock, rlock, runlock := api.Event{Op: api.Unlock}, api.Event{Op: api.Lock}, api.Event{Op: api.RLock}, api.Event{Op: api.RUnlock}
	joins(t, unlock, lock, true)
	joins(t, unlock, rlock, true)
	joins(t, runlock, lock, true)
	joins(t, runlock, rlock, false)
	joins(t, lock, lock, false)
	joins(t, rlock, lock, false)
	joins(t, unlock, unlock, false)
	// Each that was ahead is heard of, not the last alone.
	ordered(t, p, true, of(first, api.Unlock, 1), of(third, api.Unlock, 1), of(0, api.RUnlock, 1), of(second, api.Lock, 1))
	ordered(t, p, true, of(first, api.RUnlock, 1), of(third, api.RUnlock, 1), of(0, api.Unlock, 1), of(second, api.Lock, 1))
	ordered(t, p, true, of(first, api.Unlock, 1), of(third, api.RUnlock, 1), of(second, api.RLock, 1))
	ordered(t, p, false, of(first, api.RUnlock, 1), of(third, api.Unlock, 1), of(second, api.RLock, 1))
}

// Rule 4.
func TestAtoms(t *testing.T) {
	p := api.Program{}
	write, read, bump := api.Event{Op: api.Write}, api.Event{Op: api.Read}, api.Event{Op: api.Bump}
	joins(t, write, read, true)
	joins(t, write, bump, true)
	joins(t, bump, read, true)
	joins(t, write, write, false)
	joins(t, bump, write, false)
	joins(t, read, read, false)
	ordered(t, p, true, of(first, api.Bump, 1), of(second, api.Bump, 1))
	ordered(t, p, false, of(second, api.Bump, 1), of(first, api.Bump, 1))
	// What is written between hides the one ahead; a Bump heard of it itself, and so tells of it.
	ordered(t, p, false, of(first, api.Write, 1), of(third, api.Write, 1), of(second, api.Read, 1))
	ordered(t, p, false, of(first, api.Bump, 1), of(third, api.Write, 1), of(second, api.Bump, 1))
	ordered(t, p, true, of(first, api.Write, 1), of(third, api.Bump, 1), of(second, api.Read, 1))
	ordered(t, p, true, of(first, api.Write, 1), of(third, api.Write, 2), of(second, api.Read, 1))
	ordered(t, p, true, of(first, api.Write, 1), of(third, api.Read, 1), of(second, api.Read, 1))
	ordered(t, p, true, of(third, api.Write, 1), of(first, api.Write, 1), of(second, api.Read, 1))
	// One that heard of it and then writes tells of it too.
	ordered(t, p, true, of(first, api.Write, 1), of(third, api.Read, 1), of(third, api.Write, 1), of(second, api.Read, 1))
	// What the second one wrote itself between hides it as well.
	ordered(t, p, false, of(first, api.Write, 1), of(second, api.Write, 1), of(second, api.Read, 1))
}

// took are takings; none are Recvs and Polls that took nothing.
var (
	took = []api.Event{{Op: api.Recv, Mode: 1}, {Op: api.Poll, Mode: 1}}
	none = []api.Event{{Op: api.Recv}, {Op: api.Poll}, {Op: api.Recv, Mode: 2}, {Op: api.Poll, Mode: 2}, {Op: api.Recv, Mode: 3}, {Op: api.Poll, Mode: -1}}
)

// by is an event as one thread's, of one Obj.
func by(e api.Event, thread, obj int) api.Event {
	e.Thread, e.Obj = thread, obj
	return e
}

// Rule 5: the n-th that comes out is the n-th that went in.
func TestSends(t *testing.T) {
	for _, r := range took {
		joins(t, api.Event{Op: api.Send}, r, true)
		for _, p := range []api.Program{chans(9, 9, 9), chans(0, 1), {}} {
			s := of(first, api.Send, 1)
			other, otherTook := of(third, api.Send, 1), by(r, third, 1)
			ordered(t, p, true, s, by(r, second, 1))
			ordered(t, p, true, s, other, by(r, second, 1))
			ordered(t, p, false, other, s, by(r, second, 1))
			ordered(t, p, false, s, otherTook, by(r, second, 1))
			ordered(t, p, true, other, otherTook, s, by(r, second, 1))
			ordered(t, p, true, other, s, otherTook, by(r, second, 1))
			ordered(t, p, false, by(r, third, 1), s, by(r, second, 1))
			// What goes through another channel is not counted.
			ordered(t, p, true, of(third, api.Send, 2), by(r, third, 2), s, by(r, third, 0), by(r, second, 1))
		}
		for _, n := range none {
			joins(t, api.Event{Op: api.Send}, n, false)
			ordered(t, chans(9, 9), true, by(n, third, 1), of(first, api.Send, 1), by(n, third, 1), by(r, second, 1))
		}
	}
}

// Rule 6: the n-th taking makes room for the Send that is so many behind as the channel holds.
func TestTakings(t *testing.T) {
	send, other := of(second, api.Send, 1), of(0, api.Send, 1)
	for _, e := range took {
		r := by(e, first, 1)
		for room := range 4 {
			p := chans(9, room, 9)
			for ahead := range 6 {
				sends := slices.Repeat([]api.Event{other}, ahead)
				ordered(t, p, ahead == room, slices.Concat([]api.Event{r}, sends, []api.Event{send})...)
				ordered(t, p, ahead == room, slices.Concat(sends, []api.Event{r, send})...)
				ordered(t, p, ahead == room+1, slices.Concat(sends, []api.Event{by(e, third, 1), r, send})...)
				for _, n := range none {
					ordered(t, p, ahead == room, slices.Concat(sends, []api.Event{by(n, third, 1), r, by(n, third, 1), send})...)
					ordered(t, p, false, slices.Concat(sends, []api.Event{by(n, first, 1), send})...)
				}
				// Channels that are not this one's make nothing of it.
				ordered(t, p, ahead == room, slices.Concat(sends, []api.Event{of(0, api.Send, 2), by(e, third, 2), by(e, third, 0), r, send})...)
			}
		}
	}
}

// A channel that the program has no place for has no room, whatever its number is.
func TestChannelsThatThereAreNot(t *testing.T) {
	for _, x := range []int{-1, 3, 4, 1 << 32, math.MinInt, math.MaxInt} {
		for _, r := range took {
			for _, p := range []api.Program{chans(1, 1, 1), {}, {Chans: []int{}}} {
				ordered(t, p, true, by(r, first, x), of(second, api.Send, x))
				ordered(t, p, false, of(third, api.Send, x), by(r, first, x), of(second, api.Send, x))
				ordered(t, p, true, by(r, third, x), of(third, api.Send, x), by(r, first, x), of(second, api.Send, x))
			}
		}
	}
	// What lies behind the list's length is no channel.
	long := []int{0, 1, 1, 1}
	ordered(t, chans(long[:1]...), true, by(took[0], first, 1), of(second, api.Send, 1))
}

func TestOddRoom(t *testing.T) {
	r, other, send := by(took[0], first, 1), by(took[1], third, 1), of(second, api.Send, 1)
	// With -2 it is the third taking that is ahead of the first Send.
	ordered(t, chans(0, -2), true, other, other, r, send)
	ordered(t, chans(0, -2), false, other, r, other, send)
	ordered(t, chans(0, -2), false, other, other, other, r, send)
	ordered(t, chans(0, -2), true, other, other, other, r, of(0, api.Send, 1), send)
	for _, most := range []int{math.MinInt, math.MinInt + 1, -1 << 32, 1 << 32, math.MaxInt - 1, math.MaxInt} {
		ordered(t, chans(0, most), false, r, send)
		ordered(t, chans(0, most), false, of(0, api.Send, 1), r, send)
		ordered(t, chans(most), true, r, send)
	}
}

// Rule 7.
func TestClose(t *testing.T) {
	p := api.Program{}
	for _, op := range []uint8{api.Recv, api.Poll} {
		for mode := -1; mode <= 3; mode++ {
			joins(t, api.Event{Op: api.Close}, api.Event{Op: op, Mode: mode}, mode == 2)
		}
		ordered(t, p, true, of(first, api.Close, 1), of(third, api.Close, 1), went(second, op, 1, 2))
		ordered(t, p, true, of(first, api.Close, 1), went(third, op, 1, 2), went(second, op, 1, 2))
	}
}

// Rule 8.
func TestGroups(t *testing.T) {
	p := api.Program{}
	for _, v := range []int{math.MinInt, -2, -1, 0, 1, 2, math.MaxInt} {
		joins(t, api.Event{Op: api.Grow, Value: v}, api.Event{Op: api.Wait, Value: -v}, v < 0)
	}
	ordered(t, p, true, grew(first, 1, -1), grew(third, 1, -1), grew(0, 1, 2), of(second, api.Wait, 1))
	ordered(t, p, true, grew(first, 1, -1), of(third, api.Wait, 1), of(second, api.Wait, 1))
	ordered(t, p, false, grew(first, 1, 1), grew(third, 1, -1), of(second, api.Wait, 1))
}

// Rule 9.
func TestOnces(t *testing.T) {
	p := api.Program{}
	for mode := -1; mode <= 3; mode++ {
		joins(t, api.Event{Op: api.End}, api.Event{Op: api.Begin, Mode: mode}, mode == 0)
	}
	ordered(t, p, true, of(first, api.End, 1), of(third, api.End, 1), of(second, api.Begin, 1))
	ordered(t, p, true, of(first, api.End, 1), of(third, api.Begin, 1), of(second, api.Begin, 1))
}

// Things of one number, but not of one kind, know nothing of one another.
func TestKindsAreApart(t *testing.T) {
	teachers := []api.Event{of(first, api.Unlock, 1), of(first, api.RUnlock, 1), of(first, api.Write, 1), of(first, api.Send, 1), went(first, api.Recv, 1, 1), of(first, api.Close, 1), grew(first, 1, -1), of(first, api.End, 1), of(first, api.Go, 1)}
	hearers := []api.Event{of(second, api.Lock, 1), of(second, api.RLock, 1), of(second, api.Read, 1), went(second, api.Recv, 1, 1), of(second, api.Send, 1), went(second, api.Poll, 1, 2), of(second, api.Wait, 1), of(second, api.Begin, 1)}
	for _, a := range teachers {
		for _, b := range hearers {
			ordered(t, api.Program{}, leads(a, b), a, b)
		}
	}
}

// chain is one way from thread to thread by each rule: what one does, and what the next one does then.
func chain(x int) [][2]api.Event {
	return [][2]api.Event{
		{of(0, api.Unlock, x), of(0, api.Lock, x)},
		{of(0, api.Unlock, x), of(0, api.RLock, x)},
		{of(0, api.RUnlock, x), of(0, api.Lock, x)},
		{of(0, api.Write, x), of(0, api.Read, x)},
		{of(0, api.Bump, x), of(0, api.Bump, x)},
		{of(0, api.Send, x), went(0, api.Recv, x, 1)},
		{went(0, api.Poll, x, 1), of(0, api.Send, x)},
		{of(0, api.Close, x), went(0, api.Poll, x, 2)},
		{grew(0, x, -3), of(0, api.Wait, x)},
		{of(0, api.End, x), of(0, api.Begin, x)},
	}
}

// From the first thread to others, and on to the second, by each rule and then each other one; and through all of them.
func TestThroughOthers(t *testing.T) {
	p := api.Program{}
	for _, one := range chain(1) {
		for _, other := range chain(2) {
			a, b := by(one[0], first, 1), by(one[1], third, 1)
			c, d := by(other[0], third, 2), by(other[1], second, 2)
			ordered(t, p, true, a, b, c, d)
			ordered(t, p, true, a, b, of(third, api.Nop, 0), c, d)
			// A row has to rise.
			ordered(t, p, false, a, c, b, d)
			ordered(t, p, false, a, c, d, b)
			ordered(t, p, false, c, d, a, b)
		}
		ordered(t, p, true, by(one[0], first, 1), by(one[1], third, 1), of(third, api.Go, second))
		ordered(t, p, true, of(first, api.Go, third), by(one[0], third, 1), by(one[1], second, 1))
		ordered(t, p, false, by(one[0], first, 1), of(third, api.Go, second), by(one[1], third, 1))
	}
	var all []api.Event
	k := first
	for at, way := range chain(0) {
		next := (k + 1) % api.MaxThreads
		all = append(all, by(way[0], k, at), by(way[1], next, at))
		k = next
	}
	all = append(all, of(k, api.Go, second))
	if k == first || k == second {
		t.Fatal("the row ends where it must not")
	}
	ordered(t, p, true, all...)
	for at := range all {
		if at < 2*len(chain(0)) && (at/2+first+1)%api.MaxThreads == second {
			// From here on the second thread has heard of it.
			break
		}
		ordered(t, p, false, slices.Clone(all[:at])...)
	}
}

// One that races tells what it knows all the same.
func TestRacesBringNoOrder(t *testing.T) {
	p := api.Program{}
	l := []api.Event{store(0), store(1), of(1, api.Unlock, 0), of(2, api.Lock, 0), load(2)}
	finds(t, p, l, api.Race{First: 0, Second: 1}, api.Race{First: 0, Second: 4})
	if !race.Racy(p, l[:2]) || race.Racy(p, l[1:]) {
		t.Error("Racy of a part")
	}
}
