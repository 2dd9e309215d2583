package race

import (
	"interlock/api"
	"interlock/clock"
)

// spot is which event of a trace one is, and which of its thread's, from 1 on: so none is at the zero spot.
type spot struct{ place, number int }

// last is what a thread did last to a variable: its last Store, and its last Load or Store.
type last struct{ store, touch spot }

// lasts is what each thread did last to each variable.
type lasts map[int][api.MaxThreads]last

// touches says whether an event is one that may conflict with others.
func touches(e api.Event) bool { return e.Op == api.Load || e.Op == api.Store }

// against is where the last event that conflicts with another thread's stands; the zero spot, if there is none.
func (l last) against(e api.Event) spot {
	if e.Op == api.Store {
		return l.touch
	}
	return l.store
}

// racing are the places of what races with an event that has this clock, by rising threads.
func (l lasts) racing(e api.Event, c []int) []int {
	var places []int
	for k, did := range l[e.Obj] {
		s := did.against(e)
		if k == e.Thread || s == (spot{}) {
			continue
		}
		if s.number > clock.At(c, k) {
			places = append(places, s.place)
		}
	}
	return places
}

// note keeps an event that touches a variable as its thread's last one.
func (l lasts) note(place int, e api.Event, c []int) {
	s := spot{place, clock.At(c, e.Thread)}
	all := l[e.Obj]
	did := &all[e.Thread]
	did.touch = s
	if e.Op == api.Store {
		did.store = s
	}
	l[e.Obj] = all
}
