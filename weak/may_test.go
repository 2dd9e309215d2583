package weak_test

import (
	"math"
	"slices"
	"testing"

	"interlock/api"
	"interlock/weak"
)

// of is an event of a thread: what it did, and of what.
func of(thread int, op uint8, obj int) api.Event {
	return api.Event{Thread: thread, Op: op, Obj: obj}
}

// went is an event that went so.
func went(thread int, op uint8, obj, mode int) api.Event {
	return api.Event{Thread: thread, Op: op, Obj: obj, Mode: mode}
}

// grew is a Grow of a group.
func grew(thread, group, value int) api.Event {
	return api.Event{Thread: thread, Op: api.Grow, Obj: group, Value: value}
}

// load and store are of variable 0.
func load(thread int) api.Event  { return of(thread, api.Load, 0) }
func store(thread int) api.Event { return of(thread, api.Store, 0) }

// chans is a program with such channels.
func chans(most ...int) api.Program { return api.Program{Chans: most} }

// odd are numbers of things that no program has a place for, or only some have.
var odd = []int{math.MinInt, math.MinInt + 1, -1 << 32, -2, -1, 0, 1, 3, 4, 7, 8, 64, 1 << 32, math.MaxInt - 1, math.MaxInt}

// may holds May to what a load of x by the thread may read.
func may(t *testing.T, p api.Program, l []api.Event, thread, x int, want ...int) {
	t.Helper()
	if got := weak.May(p, l, thread, x); !slices.Equal(got, want) {
		t.Errorf("May of thread %d and variable %d behind %v, with channels %v: %v, not %v", thread, x, l, p.Chans, got, want)
	}
}

// reads is the same for variable 0, where no channel has any room.
func reads(t *testing.T, l []api.Event, thread int, want ...int) {
	t.Helper()
	may(t, api.Program{}, l, thread, 0, want...)
}

func TestExample(t *testing.T) {
	l := []api.Event{store(0)}
	reads(t, l, 1, 0, -1)
	reads(t, l, 0, 0)
}

func TestMayBehindNoEvents(t *testing.T) {
	for _, p := range []api.Program{{}, chans(1), example()} {
		for _, k := range odd {
			for _, x := range odd {
				may(t, p, nil, k, x, -1)
				may(t, p, []api.Event{}, k, x, -1)
			}
		}
	}
}

func TestMayBehindOneStore(t *testing.T) {
	for _, k := range odd {
		for _, other := range odd {
			l := []api.Event{store(k)}
			if k == other {
				reads(t, l, k, 0)
			} else {
				reads(t, l, other, 0, -1)
			}
		}
	}
	// It may stand anywhere.
	for n := range 6 {
		l := make([]api.Event, 6)
		for at := range l {
			l[at] = of(at%3, api.Nop, 0)
		}
		l[n] = store(1)
		reads(t, l, 1, n)
		reads(t, l, 0, n, -1)
		reads(t, l, 7, n, -1)
	}
}

// Of what a thread stored itself only the last is left, however much it stored.
func TestMayBehindStoresOfOneThread(t *testing.T) {
	var l []api.Event
	want := []int{-1}
	for n := range 40 {
		l = append(l, store(3), load(3))
		reads(t, l, 3, 2*n)
		// Another thread knows of none of them.
		want = append([]int{2 * n}, want...)
		reads(t, l, 2, want...)
	}
}

// handed is an Unlock and a Lock: what the first thread did is known to the second one.
func handed(from, to, lock int) []api.Event {
	return []api.Event{of(from, api.Unlock, lock), of(to, api.Lock, lock)}
}

func TestMayBehindAStoreThatIsInOrder(t *testing.T) {
	l := append([]api.Event{store(0)}, handed(0, 1, 0)...)
	reads(t, l, 1, 0)
	reads(t, l, 0, 0)
	// Nothing was handed to the third.
	reads(t, l, 2, 0, -1)
	// Handed to another, and by that one on, it is in order through both.
	l = append(l, handed(1, 2, 1)...)
	reads(t, l, 2, 0)
	reads(t, l, 3, 0, -1)
}

// A store that the thread did not hear of does not hide what it knows, and is not hidden by it.
func TestMayBehindAStoreThatIsInNoOrder(t *testing.T) {
	// It was stored behind what was handed on.
	l := slices.Concat([]api.Event{store(0)}, handed(0, 1, 0), []api.Event{store(0)})
	reads(t, l, 1, 3, 0)
	reads(t, l, 0, 3)
	reads(t, l, 2, 3, 0, -1)
	// The other thread handed on, but to a lock that nobody took, or ahead of the store, or the wrong way.
	reads(t, []api.Event{store(0), of(0, api.Unlock, 0), of(1, api.Lock, 1)}, 1, 0, -1)
	reads(t, []api.Event{of(0, api.Unlock, 0), store(0), of(1, api.Lock, 0)}, 1, 1, -1)
	reads(t, []api.Event{store(0), of(1, api.Lock, 0), of(0, api.Unlock, 0)}, 1, 0, -1)
	reads(t, []api.Event{store(0), of(0, api.Lock, 0), of(1, api.Unlock, 0)}, 1, 0, -1)
}

// What another store is in order behind, that one known to the load, can not be read any more; neither can the beginning.
func TestMayWhereOneStoreHidesAnother(t *testing.T) {
	// By the same thread.
	l := append([]api.Event{store(0), store(0)}, handed(0, 1, 0)...)
	reads(t, l, 1, 1)
	// By the one that it was handed to; and by the load's own thread.
	l = slices.Concat([]api.Event{store(0)}, handed(0, 1, 0), []api.Event{store(1)}, handed(1, 2, 1))
	reads(t, l, 2, 3)
	reads(t, l, 1, 3)
	// Thread 0 does not know of the second.
	reads(t, l, 0, 3, 0)
	// A row of three, each hides the one ahead of it.
	l = slices.Concat(l, []api.Event{store(2)}, handed(2, 3, 2))
	reads(t, l, 3, 6)
	reads(t, l, 0, 6, 3, 0)
	reads(t, l, 1, 6, 3)
	reads(t, l, 4, 6, 3, 0, -1)
}

// A store behind which there is another in order may be read all the same, if that one is not itself ahead of the load.
func TestMayWhereTheHidingStoreIsNotKnown(t *testing.T) {
	l := []api.Event{store(0), store(0)}
	reads(t, l, 1, 1, 0, -1)
	// The first is known, the second is not.
	l = slices.Concat([]api.Event{store(0)}, handed(0, 1, 0), []api.Event{store(0), store(0)})
	reads(t, l, 1, 4, 3, 0)
	// Thread 2 knows the first and hides it, thread 1 only knows the first.
	l = slices.Concat([]api.Event{store(0), of(0, api.RUnlock, 0)}, handed(0, 2, 1), []api.Event{store(2), of(1, api.Lock, 0)})
	reads(t, l, 1, 4, 0)
	reads(t, l, 2, 4)
}

// Stores that are both known, but in no order with each other, may both be read; the beginning may not.
func TestMayOfStoresSideBySide(t *testing.T) {
	var l []api.Event
	for k := range 5 {
		l = append(l, store(k), grew(k, 0, -1))
	}
	l = append(l, of(5, api.Wait, 0))
	reads(t, l, 5, 8, 6, 4, 2, 0)
	for k := range 5 {
		want := []int{8, 6, 4, 2, 0}
		reads(t, l, k, want...)
	}
	reads(t, l, 6, 8, 6, 4, 2, 0, -1)
	// Of each only its last.
	l = slices.Concat([]api.Event{store(0), store(1), store(2)}, l)
	reads(t, l, 5, 11, 9, 7, 5, 3)
	// Of those that hide others some may be far ahead of some that are hidden themselves.
	l = []api.Event{store(0), store(0), store(1), store(1), grew(0, 0, -1), grew(1, 0, -1), of(2, api.Wait, 0)}
	reads(t, l, 2, 3, 1)
	reads(t, l, 1, 3, 1, 0)
	// One that knows some of them hides these alone.
	l = slices.Concat([]api.Event{store(0)}, handed(0, 1, 0), []api.Event{store(1), store(2), grew(0, 0, -1), grew(1, 0, -1), grew(2, 0, -1), of(3, api.Wait, 0)})
	reads(t, l, 3, 4, 3)
}

// The beginning may be read just if no store of the variable is ahead of the load, whatever else is known.
func TestMayOfTheBeginning(t *testing.T) {
	l := slices.Concat([]api.Event{of(0, api.Store, 1), load(0), of(0, api.Write, 0)}, handed(0, 1, 0))
	reads(t, l, 1, -1)
	may(t, api.Program{}, l, 1, 1, 0)
	l = append(l, store(2))
	reads(t, l, 1, 5, -1)
	l = append(l, store(1))
	reads(t, l, 1, 6, 5)
	reads(t, l, 0, 6, 5, -1)
}

// What was loaded of a variable, or done to others of its number, is nothing to it.
func TestMayOfOtherThings(t *testing.T) {
	for op := range 256 {
		if uint8(op) == api.Store {
			continue
		}
		reads(t, []api.Event{of(0, uint8(op), 0), of(1, uint8(op), 0)}, 0, -1)
		l := []api.Event{store(0), of(0, uint8(op), 0)}
		reads(t, l, 0, 0)
		want := []int{0, -1}
		if uint8(op) == api.Go {
			reads(t, l, 1, want...)
			l[1].Obj = 1
			want = want[:1]
		}
		reads(t, l, 1, want...)
	}
	for _, x := range odd {
		for _, y := range odd {
			l := []api.Event{of(0, api.Store, x), of(1, api.Store, y), of(0, api.Store, y)}
			if x == y {
				may(t, api.Program{}, l, 0, x, 2, 1)
				may(t, api.Program{}, l, 1, x, 2, 1, 0)
				continue
			}
			may(t, api.Program{}, l, 0, x, 0)
			may(t, api.Program{}, l, 1, x, 0, -1)
			may(t, api.Program{}, l, 2, x, 0, -1)
			may(t, api.Program{}, l, 0, y, 2, 1)
			may(t, api.Program{}, l, 1, y, 2, 1)
			may(t, api.Program{}, l, 2, y, 2, 1, -1)
		}
	}
}

// Threads and variables that no program has are as others, if events have them.
func TestMayOfThreadsAndVariablesThatThereAreNoneOf(t *testing.T) {
	l := []api.Event{store(0), store(1)}
	for _, x := range odd {
		if x != 0 {
			may(t, example(), l, 0, x, -1)
			may(t, example(), l, x, x, -1)
		}
	}
	for _, k := range []int{math.MinInt, -1, 2, api.MaxThreads, api.MaxThreads + 1, math.MaxInt} {
		reads(t, l, k, 1, 0, -1)
		may(t, example(), append(slices.Clone(l), store(k)), k, 0, 2, 1, 0)
		reads(t, append(slices.Clone(l), of(1, api.Go, k)), k, 1, 0)
		reads(t, append(slices.Clone(l), handed(1, k, 0)...), k, 1, 0)
	}
}

// hands says whether what is between hands on what the first thread stored ahead of it to a load of the second one behind it.
func hands(t *testing.T, p api.Program, must bool, between ...api.Event) {
	t.Helper()
	l := append([]api.Event{of(2, api.Store, 5)}, between...)
	if must {
		may(t, p, l, 4, 5, 0)
	} else {
		may(t, p, l, 4, 5, 0, -1)
	}
	// An older one is hidden with the beginning, a younger one is not known.
	l = append([]api.Event{of(2, api.Store, 5)}, l...)
	l = append(l, of(2, api.Store, 5))
	if must {
		may(t, p, l, 4, 5, len(l)-1, 1)
	} else {
		may(t, p, l, 4, 5, len(l)-1, 1, 0, -1)
	}
}

func TestHandsOn(t *testing.T) {
	two := func(a, b uint8) []api.Event { return []api.Event{of(2, a, 1), of(4, b, 1)} }
	for _, c := range []struct {
		name    string
		must    bool
		between []api.Event
	}{
		{"nothing", false, nil},
		{"a go", true, []api.Event{of(2, api.Go, 4)}},
		{"a go of another", false, []api.Event{of(2, api.Go, 3)}},
		{"a lock", true, two(api.Unlock, api.Lock)},
		{"a lock that readers take", true, two(api.Unlock, api.RLock)},
		{"a lock that readers leave", true, two(api.RUnlock, api.Lock)},
		{"a lock that readers share", false, two(api.RUnlock, api.RLock)},
		{"another lock", false, []api.Event{of(2, api.Unlock, 1), of(4, api.Lock, 2)}},
		{"an atom", true, two(api.Write, api.Read)},
		{"an atom that grows", true, two(api.Bump, api.Bump)},
		{"an atom that is only written", false, two(api.Write, api.Write)},
		{"an atom that is only read", false, two(api.Read, api.Read)},
		{"an atom that a third has written", false, []api.Event{of(2, api.Write, 1), of(3, api.Write, 1), of(4, api.Read, 1)}},
		{"an atom that a third has made grow", true, []api.Event{of(2, api.Write, 1), of(3, api.Bump, 1), of(4, api.Read, 1)}},
		{"a channel", true, []api.Event{of(2, api.Send, 1), went(4, api.Recv, 1, 1)}},
		{"a channel that is polled", true, []api.Event{of(2, api.Send, 1), went(4, api.Poll, 1, 1)}},
		{"a channel that has nothing", false, []api.Event{of(2, api.Send, 1), went(4, api.Poll, 1, 0)}},
		{"a channel with what another sent", false, []api.Event{of(3, api.Send, 1), of(2, api.Send, 1), went(4, api.Recv, 1, 1)}},
		{"a channel that has room again", true, []api.Event{of(4, api.Send, 1), of(4, api.Send, 1), went(2, api.Recv, 1, 1), of(4, api.Send, 1)}},
		{"a channel that has room still", false, []api.Event{of(4, api.Send, 1), went(2, api.Recv, 1, 1), of(4, api.Send, 1)}},
		{"a channel that is closed", true, []api.Event{of(2, api.Close, 1), went(4, api.Recv, 1, 2)}},
		{"a channel that is closed, polled", true, []api.Event{of(2, api.Close, 1), went(4, api.Poll, 1, 2)}},
		{"a channel that is closed, with something", false, []api.Event{of(2, api.Close, 1), went(4, api.Recv, 1, 1)}},
		{"a group", true, []api.Event{grew(2, 1, -1), of(4, api.Wait, 1)}},
		{"a group that grows", false, []api.Event{grew(2, 1, 1), of(4, api.Wait, 1)}},
		{"a once", true, []api.Event{went(2, api.Begin, 1, 1), of(2, api.End, 1), went(4, api.Begin, 1, 0)}},
		{"a once of its own", false, []api.Event{of(2, api.End, 1), went(4, api.Begin, 1, 1)}},
		{"a row of things", true, []api.Event{of(2, api.Unlock, 0), of(3, api.Lock, 0), of(3, api.Write, 0), of(5, api.Read, 0), grew(5, 0, -3), of(1, api.Wait, 0), of(1, api.Go, 4)}},
	} {
		t.Run(c.name, func(t *testing.T) { hands(t, chans(0, 2), c.must, c.between...) })
	}
}

// How much a channel holds is the program's.
func TestRoomOfChannels(t *testing.T) {
	l := []api.Event{store(0), went(0, api.Recv, 0, 1), of(1, api.Send, 0), of(1, api.Send, 0)}
	for _, c := range []struct {
		p    api.Program
		want []int
	}{
		{api.Program{}, []int{0}},
		{chans(0), []int{0}},
		{chans(1), []int{0}},
		{chans(2), []int{0, -1}},
		{chans(-1), []int{0, -1}},
		{chans(math.MaxInt), []int{0, -1}},
	} {
		may(t, c.p, l, 1, 0, c.want...)
		// The same between two stores, of which the second is known to the load.
		two := append(slices.Clone(l), store(1))
		if len(c.want) == 1 {
			may(t, c.p, two, 1, 0, 4)
		} else {
			may(t, c.p, two, 1, 0, 4, 0)
		}
	}
}

// Events need not be a run's.
func TestMayBehindWhatNoRunDoes(t *testing.T) {
	// Unlocks of what nobody locked, takings of what nobody sent, threads that go on behind what nobody began.
	reads(t, []api.Event{of(3, api.Unlock, 9), store(3), of(3, api.Unlock, 9), of(9, api.Lock, 9), of(9, api.Lock, 9)}, 9, 1)
	reads(t, []api.Event{went(3, api.Recv, -1, 1), store(3), of(4, api.Send, -1), store(5), went(5, api.Poll, -1, 1)}, 5, 3, 1)
	// What begins itself.
	reads(t, []api.Event{store(0), of(0, api.Go, 0), store(0)}, 0, 2)
	// Instructions that there are none of.
	reads(t, []api.Event{of(0, 200, 0), store(0), of(0, 255, 0), of(1, api.Ops, 0)}, 1, 1, -1)
	// A Store with a mode, or that has another number, is one.
	reads(t, []api.Event{{Op: api.Store, Value: math.MinInt, Mode: -4, Pc: -9}}, 1, 0, -1)
}

// The load stands behind all events, not among those of its thread, and the trace has no other load to it.
func TestMayIsAskedBehindAll(t *testing.T) {
	l := slices.Concat([]api.Event{store(0), load(1)}, handed(0, 1, 0), []api.Event{store(0)})
	reads(t, l[:1], 1, 0, -1)
	reads(t, l[:2], 1, 0, -1)
	reads(t, l[:3], 1, 0, -1)
	reads(t, l[:4], 1, 0)
	reads(t, l, 1, 4, 0)
}
