package race_test

import (
	"math"
	"slices"
	"testing"

	"interlock/api"
	"interlock/race"
)

// of is an event of a thread: what it did, and of what.
func of(thread int, op uint8, obj int) api.Event {
	return api.Event{Thread: thread, Op: op, Obj: obj}
}

// went is an event that went so.
func went(thread int, op uint8, obj, mode int) api.Event {
	return api.Event{Thread: thread, Op: op, Obj: obj, Mode: mode}
}

// grew is a Grow of a group.
func grew(thread, group, value int) api.Event {
	return api.Event{Thread: thread, Op: api.Grow, Obj: group, Value: value}
}

// load and store are of variable 0.
func load(thread int) api.Event  { return of(thread, api.Load, 0) }
func store(thread int) api.Event { return of(thread, api.Store, 0) }

// chans is a program with such channels.
func chans(most ...int) api.Program { return api.Program{Chans: most} }

// allOps are all instructions, and some that there are not.
func allOps() []uint8 {
	l := []uint8{api.Ops, api.Ops + 1, 128, 255}
	for op := range api.Ops {
		l = append(l, uint8(op))
	}
	return l
}

// odd are numbers of things that no program has a place for, or only some have.
var odd = []int{math.MinInt, math.MinInt + 1, -1 << 32, -2, -1, 0, 1, 3, 4, 7, 8, 64, 1 << 32, math.MaxInt - 1, math.MaxInt}

// finds holds Find to the races that there must be, and Racy to whether there are any.
func finds(t *testing.T, p api.Program, l []api.Event, want ...api.Race) {
	t.Helper()
	if got := race.Find(p, l); !slices.Equal(got, want) {
		t.Errorf("Find of %v, with channels %v: %v, not %v", l, p.Chans, got, want)
	}
	if race.Racy(p, l) != (len(want) > 0) {
		t.Errorf("Racy of %v, with channels %v: %t", l, p.Chans, len(want) == 0)
	}
}

func TestExample(t *testing.T) {
	finds(t, api.Program{}, []api.Event{store(0), load(1)}, api.Race{First: 0, Second: 1})
}

func TestTwoThatConflict(t *testing.T) {
	p := api.Program{Vars: 1}
	for a := range api.MaxThreads {
		for b := range api.MaxThreads {
			if a == b {
				continue
			}
			finds(t, p, []api.Event{store(a), load(b)}, api.Race{First: 0, Second: 1})
			finds(t, p, []api.Event{load(a), store(b)}, api.Race{First: 0, Second: 1})
			finds(t, p, []api.Event{store(a), store(b)}, api.Race{First: 0, Second: 1})
			finds(t, p, []api.Event{load(a), load(b)})
		}
	}
	// Nothing hangs on what was stored, where it was, or how it went.
	for _, n := range odd {
		first := api.Event{Thread: 2, Pc: n, Op: api.Store, Obj: 1, Value: n, Mode: n}
		second := api.Event{Thread: 4, Pc: -n, Op: api.Load, Obj: 1, Value: n + 1, Mode: n - 1}
		finds(t, p, []api.Event{first, second}, api.Race{First: 0, Second: 1})
		finds(t, p, []api.Event{second, first}, api.Race{First: 0, Second: 1})
	}
}

func TestTwoThatDoNotConflict(t *testing.T) {
	p := api.Program{Vars: 2}
	for _, a := range allOps() {
		for _, b := range allOps() {
			plain := (a == api.Load || a == api.Store) && (b == api.Load || b == api.Store)
			if plain && (a == api.Store || b == api.Store) {
				finds(t, p, []api.Event{of(0, a, 1), of(1, b, 1)}, api.Race{First: 0, Second: 1})
			} else {
				finds(t, p, []api.Event{of(0, a, 1), of(1, b, 1)})
			}
			finds(t, p, []api.Event{of(0, a, 1), of(1, b, 0)})
			finds(t, p, []api.Event{of(3, a, 1), of(3, b, 1)})
		}
	}
}

func TestVariablesOfAnyNumber(t *testing.T) {
	for _, p := range []api.Program{{}, {Vars: 8}, {Vars: -1}, {Vars: math.MaxInt}} {
		for _, x := range odd {
			for _, y := range odd {
				l := []api.Event{of(0, api.Store, x), of(1, api.Load, y)}
				if x == y {
					finds(t, p, l, api.Race{First: 0, Second: 1})
				} else {
					finds(t, p, l)
				}
			}
		}
	}
	// Many at once are each for itself.
	var l []api.Event
	var want []api.Race
	for k := range 2 {
		for at, x := range odd {
			l = append(l, of(k, api.Store, x))
			if k == 1 {
				want = append(want, api.Race{First: at, Second: len(odd) + at})
			}
		}
	}
	finds(t, api.Program{}, l, want...)
}

// Of one thread only the last one that conflicts is told, and that one is not always the last that touched the variable.
func TestTheLastOfAThread(t *testing.T) {
	p := api.Program{}
	finds(t, p, []api.Event{store(0), store(0), load(1)}, api.Race{First: 1, Second: 2})
	finds(t, p, []api.Event{store(0), load(0), load(1)}, api.Race{First: 0, Second: 2})
	finds(t, p, []api.Event{store(0), load(0), store(1)}, api.Race{First: 1, Second: 2})
	finds(t, p, []api.Event{load(0), store(0), store(1)}, api.Race{First: 1, Second: 2})
	finds(t, p, []api.Event{load(0), store(0), load(0), load(0), load(1)}, api.Race{First: 1, Second: 4})
	finds(t, p, []api.Event{load(0), load(0), store(1)}, api.Race{First: 1, Second: 2})
	finds(t, p, []api.Event{store(0), of(0, api.Store, 1), of(0, api.Nop, 0), load(1)}, api.Race{First: 0, Second: 3})
	// Each later one is told with the last that is ahead of it, not with what is behind.
	finds(t, p, []api.Event{store(0), load(1), store(0), load(1)}, api.Race{First: 0, Second: 1}, api.Race{First: 1, Second: 2}, api.Race{First: 2, Second: 3})
	finds(t, p, []api.Event{store(0), load(1), load(1), load(1)}, api.Race{First: 0, Second: 1}, api.Race{First: 0, Second: 2}, api.Race{First: 0, Second: 3})
}

// Where the last one is in order nothing is told of its thread, whatever stands ahead of it; where an earlier one is in order alone, the last one is told.
func TestTheLastOfAThreadAndWhatIsInOrder(t *testing.T) {
	p := api.Program{}
	unlock, lock := of(0, api.Unlock, 0), of(1, api.Lock, 0)
	finds(t, p, []api.Event{store(0), load(0), store(0), unlock, lock, store(1), load(1)})
	finds(t, p, []api.Event{store(0), unlock, store(0), lock, load(1)}, api.Race{First: 2, Second: 4})
	finds(t, p, []api.Event{store(0), unlock, lock, store(0), load(1)}, api.Race{First: 3, Second: 4})
	finds(t, p, []api.Event{store(0), unlock, load(0), lock, store(1)}, api.Race{First: 2, Second: 4})
	// The last that touched it is in no order, and does not conflict; the one that does is in order.
	finds(t, p, []api.Event{store(0), unlock, load(0), lock, load(1)})
	// An earlier one raced, and what it raced with hears of the thread behind that.
	finds(t, p, []api.Event{store(0), load(1), store(0), unlock, lock, load(1)}, api.Race{First: 0, Second: 1}, api.Race{First: 1, Second: 2})
}

func TestSeveralOtherThreads(t *testing.T) {
	p := api.Program{}
	l := []api.Event{store(5), store(3), store(4), store(0), load(1)}
	finds(t, p, l,
		api.Race{First: 0, Second: 1},
		api.Race{First: 1, Second: 2}, api.Race{First: 0, Second: 2},
		api.Race{First: 1, Second: 3}, api.Race{First: 2, Second: 3}, api.Race{First: 0, Second: 3},
		api.Race{First: 3, Second: 4}, api.Race{First: 1, Second: 4}, api.Race{First: 2, Second: 4}, api.Race{First: 0, Second: 4})
	// By rising threads, not by places; some are in order.
	finds(t, p, []api.Event{load(5), load(4), load(2), load(1), load(0), of(2, api.Unlock, 1), of(5, api.Unlock, 0), of(3, api.Lock, 1), store(3)},
		api.Race{First: 4, Second: 8}, api.Race{First: 3, Second: 8}, api.Race{First: 1, Second: 8}, api.Race{First: 0, Second: 8})
	// All that race with the earlier of two are told ahead of what races with the later one.
	finds(t, p, []api.Event{of(2, api.Store, 1), store(1), of(0, api.Load, 1), load(0)}, api.Race{First: 0, Second: 2}, api.Race{First: 1, Second: 3})
	finds(t, p, []api.Event{of(2, api.Store, 1), store(1), load(0), of(0, api.Load, 1)}, api.Race{First: 1, Second: 2}, api.Race{First: 0, Second: 3})
}

func TestThreadsThatThereAreNot(t *testing.T) {
	p := api.Program{}
	finds(t, p, []api.Event{store(0), load(5)}, api.Race{First: 0, Second: 1})
	for _, k := range odd {
		if 0 <= k && k <= 5 {
			continue
		}
		finds(t, p, []api.Event{store(0), load(k)})
		finds(t, p, []api.Event{store(k), load(0)})
		for _, op := range allOps() {
			l := []api.Event{store(0), load(1), load(0), store(1)}
			for at := range len(l) + 1 {
				finds(t, p, slices.Insert(slices.Clone(l), at, of(k, op, 3)))
			}
		}
	}
	finds(t, p, []api.Event{store(0), load(1), of(6, api.Nop, 0)})
	finds(t, p, []api.Event{of(-1, api.Nop, 0), store(0), load(1)})
	// A thread that begins is no event's Thread.
	for _, k := range odd {
		if k != 1 {
			finds(t, p, []api.Event{store(0), of(0, api.Go, k), load(1)}, api.Race{First: 0, Second: 2})
		}
	}
}

// nops is so many events that touch nothing, ahead of two that race.
func nops(n int) []api.Event {
	l := make([]api.Event, n)
	return append(l, store(0), load(1))
}

func TestHowManyEvents(t *testing.T) {
	p := api.Program{}
	finds(t, p, nil)
	finds(t, p, []api.Event{})
	finds(t, p, []api.Event{store(0)})
	finds(t, p, nops(1997), api.Race{First: 1997, Second: 1998})
	finds(t, p, nops(1998), api.Race{First: 1998, Second: 1999})
	finds(t, p, nops(1999))
	finds(t, p, nops(2000))
	finds(t, p, nops(20000))
	early := append([]api.Event{store(0), load(1)}, make([]api.Event, 1999)...)
	finds(t, p, early[:2000], api.Race{First: 0, Second: 1})
	finds(t, p, early)
}

// The most races that a trace may have are all told.
func TestAllRace(t *testing.T) {
	var l []api.Event
	var want []api.Race
	for at := range api.MaxScript {
		l = append(l, store(at%api.MaxThreads))
		for k := range api.MaxThreads {
			// The last of thread k that is ahead.
			if behind := (at - k + api.MaxThreads) % api.MaxThreads; behind > 0 && behind <= at {
				want = append(want, api.Race{First: at - behind, Second: at})
			}
		}
	}
	if got := race.Find(api.Program{}, l); !slices.Equal(got, want) {
		t.Errorf("%d races, not %d", len(got), len(want))
	}
	if !race.Racy(api.Program{}, l) {
		t.Error("Racy")
	}
}
