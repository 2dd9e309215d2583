package weak

import (
	"slices"

	"interlock/api"
	"interlock/order"
)

// beginning stands for what a variable was ahead of all events.
const beginning = -1

// May are the events (-1: the beginning) whose number a load of a thread may read, behind events, the last one first.
func May(p api.Program, t []api.Event, thread, x int) []int {
	known := knows(p, t, thread, x)
	over := hidden(p, t, known)
	var may []int
	for i, e := range slices.Backward(t) {
		if stores(e, x) && !over[i] {
			may = append(may, i)
		}
	}
	if len(known) == 0 {
		may = append(may, beginning)
	}
	return may
}

// stores says whether an event is a Store of x.
func stores(e api.Event, x int) bool { return e.Op == api.Store && e.Obj == x }

// knows are the Stores of x that are ahead of a Load of it by the thread behind t, rising.
func knows(p api.Program, t []api.Event, thread, x int) []int {
	// The load stands in a copy: what lies behind t in its memory is not ours.
	l := make([]api.Event, len(t)+1)
	copy(l, t)
	l[len(t)] = api.Event{Thread: thread, Op: api.Load, Obj: x}
	return slices.DeleteFunc(order.Past(p, l, len(t)), func(i int) bool { return !stores(t[i], x) })
}

// hidden says of each event whether it is ahead of a Store that is known.
func hidden(p api.Program, t []api.Event, known []int) []bool {
	over := make([]bool, len(t))
	for _, k := range slices.Backward(known) {
		if over[k] {
			// What is ahead of it is ahead of a later one, too.
			continue
		}
		for _, i := range order.Past(p, t, k) {
			over[i] = true
		}
	}
	return over
}
