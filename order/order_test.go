package order_test

import (
	"math"
	"slices"
	"testing"

	"interlock/api"
	"interlock/order"
)

// far are places that no trace has.
var far = []int{math.MinInt, math.MinInt + 1, -1 << 32, -2, -1, 1 << 32, math.MaxInt - 1, math.MaxInt}

// takers are the instructions that may take something from a channel.
var takers = []uint8{api.Recv, api.Poll}

// of is an event of a thread: what it did, and of what.
func of(thread int, op uint8, obj int) api.Event {
	return api.Event{Thread: thread, Op: op, Obj: obj}
}

// went is an event that went so.
func went(thread int, op uint8, obj, mode int) api.Event {
	return api.Event{Thread: thread, Op: op, Obj: obj, Mode: mode}
}

// grew is a Grow of group 1.
func grew(thread, value int) api.Event {
	return api.Event{Thread: thread, Op: api.Grow, Obj: 1, Value: value}
}

// chans is a program with such channels.
func chans(most ...int) api.Program { return api.Program{Chans: most} }

// sees holds a trace to all that is Direct in it: behind tells of each event those that it is ahead of.
func sees(t *testing.T, p api.Program, l []api.Event, behind map[int][]int) {
	t.Helper()
	for i := range l {
		for j := range l {
			must := slices.Contains(behind[i], j)
			if is := order.Direct(p, l, i, j); is != must {
				t.Errorf("Direct of %d and %d of %v, with channels %v: %t", i, j, l, p.Chans, is)
			}
			if must && !order.Before(p, l, i, j) {
				t.Errorf("Before of %d and %d of %v, with channels %v", i, j, l, p.Chans)
			}
		}
	}
}

// two holds Direct of two events alone to what it must be; turned round, one is never ahead of the other.
func two(t *testing.T, a, b api.Event, must bool) {
	t.Helper()
	behind := map[int][]int{}
	if must {
		behind[0] = []int{1}
	}
	sees(t, api.Program{}, []api.Event{a, b}, behind)
}

// pairs holds Direct of all that first and second may be, of two threads and the same Obj, to whether it must be; with another Obj it never is.
func pairs(t *testing.T, first, second []uint8, must func(a, b uint8) bool) {
	t.Helper()
	for _, a := range first {
		for _, b := range second {
			two(t, of(3, a, 1), of(4, b, 1), must(a, b))
			two(t, of(3, a, 1), of(4, b, 2), false)
			two(t, of(3, a, 2), of(4, b, 1), false)
			two(t, of(3, a, -1), of(4, b, 1), false)
		}
	}
}

// allOps are all instructions, and some that there are not.
func allOps() []uint8 {
	l := []uint8{api.Ops, api.Ops + 1, 128, 255}
	for op := range api.Ops {
		l = append(l, uint8(op))
	}
	return l
}

func TestExample(t *testing.T) {
	l := []api.Event{of(0, api.Store, 0), of(0, api.Unlock, 0), of(1, api.Lock, 0), of(1, api.Load, 0)}
	p := api.Program{}
	if !order.Before(p, l, 0, 3) || order.Direct(p, l, 0, 3) {
		t.Error("the first and the last")
	}
	if past := order.Past(p, l, 3); !slices.Equal(past, []int{0, 1, 2}) {
		t.Errorf("Past of the last: %v", past)
	}
}

func TestWherePlacesAreNone(t *testing.T) {
	l := []api.Event{of(0, api.Nop, 0), of(0, api.Nop, 0), of(0, api.Nop, 0)}
	p := api.Program{}
	for _, ask := range []func(api.Program, []api.Event, int, int) bool{order.Direct, order.Before} {
		for i := -3; i < 7; i++ {
			for j := -3; j < 7; j++ {
				if must := 0 <= i && i < j && j < 3; ask(p, l, i, j) != must {
					t.Errorf("%d and %d of three: %t", i, j, !must)
				}
			}
			for _, x := range far {
				if ask(p, l, i, x) || ask(p, l, x, i) {
					t.Errorf("%d and %d of three", i, x)
				}
			}
		}
		for _, x := range far {
			for _, y := range far {
				if ask(p, l, x, y) || ask(p, nil, x, y) {
					t.Errorf("%d and %d", x, y)
				}
			}
		}
		if ask(p, nil, 0, 0) || ask(p, nil, 0, 1) || ask(p, nil, -1, 0) || ask(p, l[:1], 0, 1) {
			t.Error("where there are none, or one")
		}
	}
}

// The first rule asks for nothing but the thread, whatever the thread is.
func TestOneThread(t *testing.T) {
	threads := []int{0, 1, 5, 6, -1, math.MinInt, math.MaxInt}
	for _, a := range threads {
		for _, b := range threads {
			two(t, of(a, api.Load, 0), of(b, api.Store, 0), a == b)
			two(t, of(a, 200, 1), of(b, 255, 2), a == b)
		}
	}
	for _, a := range allOps() {
		for _, b := range allOps() {
			two(t, of(2, a, 7), of(2, b, 8), true)
		}
	}
	sees(t, api.Program{}, []api.Event{of(0, api.Store, 0), of(1, api.Store, 0), of(0, api.Load, 0), of(0, api.Nop, 0)}, map[int][]int{0: {2, 3}, 2: {3}})
}

func TestGo(t *testing.T) {
	for _, x := range []int{0, 1, 5, 6, -1, math.MinInt, math.MaxInt} {
		for _, op := range allOps() {
			two(t, of(2, api.Go, x), of(x, op, 3), true)
			two(t, of(2, op, x), of(x, api.Nop, x+1), op == api.Go)
		}
		two(t, of(2, api.Go, x), of(x+7, api.Nop, x), false)
	}
	// Of several each is ahead of all that the thread does behind it, and of nothing ahead of it.
	l := []api.Event{of(0, api.Go, 1), of(1, api.Nop, 0), of(2, api.Go, 1), of(1, api.Nop, 0)}
	sees(t, api.Program{}, l, map[int][]int{0: {1, 3}, 1: {3}, 2: {3}})
}

func TestLocks(t *testing.T) {
	pairs(t, []uint8{api.Unlock}, allOps(), func(_, b uint8) bool { return b == api.Lock || b == api.RLock })
	pairs(t, []uint8{api.RUnlock}, allOps(), func(_, b uint8) bool { return b == api.Lock })
	pairs(t, allOps(), []uint8{api.RLock}, func(a, _ uint8) bool { return a == api.Unlock })
	pairs(t, allOps(), []uint8{api.Lock}, func(a, _ uint8) bool { return a == api.Unlock || a == api.RUnlock })
	// Of several each is ahead of all that are behind it.
	l := []api.Event{of(6, api.Unlock, 1), of(1, api.Lock, 1), of(2, api.RUnlock, 1), of(3, api.Unlock, 1), of(4, api.RLock, 1), of(5, api.Lock, 1)}
	sees(t, api.Program{}, l, map[int][]int{0: {1, 4, 5}, 2: {5}, 3: {4, 5}})
}

func TestAtoms(t *testing.T) {
	writes := func(op uint8) bool { return op == api.Write || op == api.Bump }
	reads := func(op uint8) bool { return op == api.Read || op == api.Bump }
	pairs(t, allOps(), []uint8{api.Read, api.Bump}, func(a, _ uint8) bool { return writes(a) })
	pairs(t, []uint8{api.Write, api.Bump}, allOps(), func(_, b uint8) bool { return reads(b) })
}

// Between both there may be all but what writes the same atom; that hides the one ahead of it, and nothing that is not between hides anything.
func TestAtomsWithSomethingBetween(t *testing.T) {
	p := api.Program{}
	for _, op := range allOps() {
		for _, x := range []int{0, 1, 2, -1} {
			for _, a := range []uint8{api.Write, api.Bump} {
				for _, b := range []uint8{api.Read, api.Bump} {
					hides := (op == api.Write || op == api.Bump) && x == 1
					first, other, second := of(3, a, 1), of(4, op, x), of(5, b, 1)
					if order.Direct(p, []api.Event{first, other, second}, 0, 2) == hides {
						t.Errorf("%v between %v and %v: %t", other, first, second, !hides)
					}
					if !order.Direct(p, []api.Event{other, first, second, other}, 1, 2) {
						t.Errorf("%v ahead of %v and %v, and behind", other, first, second)
					}
				}
			}
		}
	}
	l := []api.Event{of(0, api.Write, 1), of(1, api.Bump, 1), of(2, api.Read, 1), of(3, api.Write, 1), of(4, api.Write, 2), of(5, api.Read, 1), of(6, api.Bump, 1)}
	sees(t, api.Program{}, l, map[int][]int{0: {1}, 1: {2}, 3: {5, 6}})
}

func TestSend(t *testing.T) {
	for _, op := range allOps() {
		for mode := -1; mode <= 3; mode++ {
			takes := slices.Contains(takers, op) && mode == 1
			two(t, of(3, api.Send, 1), went(4, op, 1, mode), takes)
			two(t, of(3, api.Send, 1), went(4, op, 2, mode), false)
			two(t, went(3, op, 1, 1), went(4, api.Recv, 1, 1), op == api.Send)
		}
	}
}

// channels are events that letters tell, each of a thread of its own: s sends to channel 1, r and p take from it, c and e find it closed, n and m find nothing, o sends to another one, q takes from that.
func channels(letters string) []api.Event {
	var l []api.Event
	for k, c := range letters {
		e := map[rune]api.Event{
			's': of(0, api.Send, 1), 'r': went(0, api.Recv, 1, 1), 'p': went(0, api.Poll, 1, 1),
			'c': went(0, api.Recv, 1, 2), 'e': went(0, api.Poll, 1, 2), 'n': went(0, api.Poll, 1, 0), 'm': went(0, api.Recv, 1, 0),
			'o': of(0, api.Send, 2), 'q': went(0, api.Recv, 2, 1),
		}[c]
		e.Thread = k
		l = append(l, e)
	}
	return l
}

// through holds what such letters tell to all that is Direct in it.
func through(t *testing.T, p api.Program, letters string, behind map[int][]int) {
	t.Helper()
	sees(t, p, channels(letters), behind)
}

// The n-th that comes out is the n-th that went in; what takes nothing is not counted, nor what is of another channel.
func TestSendsAreTakenInTheirOrder(t *testing.T) {
	p := chans(9, 9, 9)
	through(t, p, "ssrr", map[int][]int{0: {2}, 1: {3}})
	through(t, p, "srsp", map[int][]int{0: {1}, 2: {3}})
	through(t, p, "sssprp", map[int][]int{0: {3}, 1: {4}, 2: {5}})
	through(t, p, "snmcerser", map[int][]int{0: {5}, 6: {8}})
	through(t, p, "osqsrqr", map[int][]int{0: {2}, 1: {4}, 3: {6}})
	through(t, p, "sosrqr", map[int][]int{0: {3}, 1: {4}, 2: {5}})
	// A taking that stands ahead of its send is ahead of none by that, and nothing comes out for what is beyond.
	through(t, p, "rsr", nil)
	through(t, p, "rssr", map[int][]int{2: {3}})
	through(t, p, "srrr", map[int][]int{0: {1}})
	// One thread's events are in order all the same.
	sees(t, p, []api.Event{of(0, api.Send, 1), of(0, api.Send, 1), went(0, api.Recv, 1, 1)}, map[int][]int{0: {1, 2}, 1: {2}})
}

// The n-th taking makes room for the send that is so many behind as the channel holds.
func TestTakingsMakeRoom(t *testing.T) {
	for _, p := range []api.Program{chans(9, 1, 9), chans(9, 1)} {
		through(t, p, "srs", map[int][]int{0: {1}, 1: {2}})
		through(t, p, "ssr", map[int][]int{0: {2}})
		through(t, p, "srsps", map[int][]int{0: {1}, 1: {2}, 2: {3}, 3: {4}})
		through(t, p, "srnmces", map[int][]int{0: {1}, 1: {6}})
		through(t, p, "sncs", nil)
		through(t, p, "srcs", map[int][]int{0: {1}, 1: {3}})
	}
	pair := chans(9, 2, 9)
	through(t, pair, "srs", map[int][]int{0: {1}})
	through(t, pair, "srss", map[int][]int{0: {1}, 1: {3}})
	through(t, pair, "ssrpss", map[int][]int{0: {2}, 1: {3}, 2: {4}, 3: {5}})
	through(t, pair, "ssqross", map[int][]int{0: {3}, 3: {5}})
	three := chans(9, 3, 9)
	through(t, three, "srsss", map[int][]int{0: {1}, 1: {4}})
	through(t, three, "sssrprsss", map[int][]int{0: {3}, 1: {4}, 2: {5}, 3: {6}, 4: {7}, 5: {8}})
}

// Without room, or where the program has no such channel, the n-th taking is ahead of the n-th send that stands behind it.
func TestNoRoom(t *testing.T) {
	for _, p := range []api.Program{chans(9, 0, 9), chans(9), chans(), {Vars: 8, Locks: 4}} {
		through(t, p, "rs", map[int][]int{0: {1}})
		through(t, p, "rps", map[int][]int{0: {2}})
		through(t, p, "rpss", map[int][]int{0: {2}, 1: {3}})
		through(t, p, "srs", map[int][]int{0: {1}})
		through(t, p, "nces", nil)
	}
	through(t, chans(9, 0), "qo", map[int][]int{0: {1}})
	for _, x := range []int{-1, 3, 4, 1 << 32, math.MinInt, math.MaxInt} {
		for _, taker := range takers {
			l := []api.Event{went(0, taker, x, 1), of(1, api.Send, x), went(2, taker, x, 1), of(3, api.Send, x)}
			sees(t, chans(1, 1, 1), l, map[int][]int{0: {1}, 2: {3}})
		}
	}
}

// A channel's room may be any number, and what is beyond the list's end is none.
func TestOddRoom(t *testing.T) {
	// With -2 it is the third taking that is ahead of the first send.
	through(t, chans(0, -2), "rrrrs", map[int][]int{2: {4}})
	through(t, chans(0, -2), "rrrrss", map[int][]int{2: {4}, 3: {5}})
	through(t, chans(0, -2), "rrs", nil)
	for _, most := range []int{math.MinInt, math.MinInt + 1, -1 << 32, 1 << 32, math.MaxInt} {
		through(t, chans(0, most), "rsrs", nil)
	}
	long := []int{1, 1, 5, 5}
	through(t, api.Program{Chans: long[:1]}, "rs", map[int][]int{0: {1}})
}

func TestTakingAheadOfSend(t *testing.T) {
	for _, op := range allOps() {
		for mode := -1; mode <= 3; mode++ {
			takes := slices.Contains(takers, op) && mode == 1
			two(t, went(3, op, 1, mode), of(4, api.Send, 1), takes)
			two(t, went(3, op, 2, mode), of(4, api.Send, 1), false)
			two(t, went(3, api.Poll, 1, 1), went(4, op, 1, mode), op == api.Send)
		}
	}
}

func TestClose(t *testing.T) {
	for _, op := range allOps() {
		for mode := -1; mode <= 3; mode++ {
			two(t, of(3, api.Close, 1), went(4, op, 1, mode), slices.Contains(takers, op) && mode == 2)
			two(t, of(3, api.Close, 1), went(4, op, 2, mode), false)
			two(t, went(3, op, 1, mode), went(4, api.Poll, 1, 2), op == api.Close)
		}
	}
	// Each is ahead of all that find the channel closed behind it.
	l := []api.Event{of(0, api.Close, 1), went(1, api.Recv, 1, 2), of(2, api.Close, 1), went(3, api.Poll, 1, 2)}
	sees(t, api.Program{}, l, map[int][]int{0: {1, 3}, 2: {3}})
}

func TestWait(t *testing.T) {
	for _, v := range []int{math.MinInt, -2, -1, 0, 1, 2, math.MaxInt} {
		for _, op := range allOps() {
			two(t, grew(3, v), of(4, op, 1), op == api.Wait && v < 0)
			two(t, grew(3, v), of(4, op, 0), false)
			two(t, api.Event{Thread: 3, Op: op, Obj: 1, Value: v}, of(4, api.Wait, 1), op == api.Grow && v < 0)
		}
	}
	l := []api.Event{grew(0, -1), grew(1, 3), grew(2, -1), of(3, api.Wait, 1), grew(4, -1), of(5, api.Wait, 1)}
	sees(t, api.Program{}, l, map[int][]int{0: {3, 5}, 2: {3, 5}, 4: {5}})
}

func TestOnces(t *testing.T) {
	for mode := -1; mode <= 3; mode++ {
		for _, op := range allOps() {
			two(t, of(3, api.End, 1), went(4, op, 1, mode), op == api.Begin && mode == 0)
			two(t, of(3, api.End, 1), went(4, op, 0, mode), false)
			two(t, went(3, op, 1, mode), went(4, api.Begin, 1, 0), op == api.End)
		}
	}
	l := []api.Event{went(0, api.Begin, 1, 1), of(0, api.End, 1), went(1, api.Begin, 1, 0), went(2, api.Begin, 1, 0)}
	sees(t, api.Program{}, l, map[int][]int{0: {1}, 1: {2, 3}})
}
