package race

import (
	"interlock/api"
	"interlock/clock"
)

// kind is what sort of thing knows of events.
type kind uint8

const (
	thread       kind = iota
	unlocked          // a lock: what its Unlocks know
	readUnlocked      // a lock: what its RUnlocks know
	atom
	sent   // a channel: what its nth Send knows
	taken  // a channel: what its nth taking knows
	closed // a channel: what its Closes know
	group
	once
)

// knower is a thing that knows of events. Only what passes through a channel is told apart by nth.
type knower struct {
	kind kind
	obj  int
	nth  int
}

// known is what all things know of the events so far: clocks in which each thread's place has how many of its events they know. What is in a clock is never changed, so several may be one list.
type known struct {
	chans  []int
	clocks map[knower][]int
	sends  map[int]int // how many there were of a channel
	takes  map[int]int
}

func newKnown(chans []int) *known {
	return &known{chans: chans, clocks: map[knower][]int{}, sends: map[int]int{}, takes: map[int]int{}}
}

// step is the clock of the next event: how many events of each thread are ahead of it, and itself.
func (k *known) step(e api.Event) []int {
	self := knower{kind: thread, obj: e.Thread}
	c := k.clocks[self]
	for _, from := range k.hears(e) {
		c = clock.Join(c, k.clocks[from])
	}
	c = clock.Tick(c, e.Thread)
	k.clocks[self] = c
	if to, is := k.tells(e); is {
		k.tell(to, c)
	}
	k.count(e)
	return c
}

// hears are the things whose knowledge comes to an event, beside its thread's own.
func (k *known) hears(e api.Event) []knower {
	x := e.Obj
	switch {
	case e.Op == api.Lock:
		return []knower{{kind: unlocked, obj: x}, {kind: readUnlocked, obj: x}}
	case e.Op == api.RLock:
		return []knower{{kind: unlocked, obj: x}}
	case e.Op == api.Read, e.Op == api.Bump:
		return []knower{{kind: atom, obj: x}}
	case taking(e):
		return []knower{{sent, x, k.takes[x]}}
	case e.Op == api.Send:
		// Where the room is odd this is a number that no taking has, and there is nothing to hear.
		return []knower{{taken, x, k.sends[x] - k.room(x)}}
	case foundClosed(e):
		return []knower{{kind: closed, obj: x}}
	case e.Op == api.Wait:
		return []knower{{kind: group, obj: x}}
	case e.Op == api.Begin && e.Mode == 0:
		return []knower{{kind: once, obj: x}}
	}
	return nil
}

// tells is the thing that an event's knowledge goes to, beside its own thread, if there is any.
func (k *known) tells(e api.Event) (to knower, is bool) {
	x := e.Obj
	switch {
	case e.Op == api.Go:
		return knower{kind: thread, obj: x}, true
	case e.Op == api.Unlock:
		return knower{kind: unlocked, obj: x}, true
	case e.Op == api.RUnlock:
		return knower{kind: readUnlocked, obj: x}, true
	case e.Op == api.Write, e.Op == api.Bump:
		return knower{kind: atom, obj: x}, true
	case e.Op == api.Send:
		return knower{sent, x, k.sends[x]}, true
	case taking(e):
		return knower{taken, x, k.takes[x]}, true
	case e.Op == api.Close:
		return knower{kind: closed, obj: x}, true
	case e.Op == api.Grow && e.Value < 0:
		return knower{kind: group, obj: x}, true
	case e.Op == api.End:
		return knower{kind: once, obj: x}, true
	}
	return knower{}, false
}

// tell lets a thing know of a clock too.
func (k *known) tell(to knower, c []int) {
	// What is written hides what was: who reads it hears of the last one alone.
	if to.kind != atom {
		c = clock.Join(k.clocks[to], c)
	}
	k.clocks[to] = c
}

// count is done behind an event's knowledge: it is numbered by those ahead of it.
func (k *known) count(e api.Event) {
	switch {
	case e.Op == api.Send:
		k.sends[e.Obj]++
	case taking(e):
		k.takes[e.Obj]++
	}
}

// room is how much a channel holds; what the program has no place for holds nothing.
func (k *known) room(x int) int {
	if x < 0 || x >= len(k.chans) {
		return 0
	}
	return k.chans[x]
}

// taking says whether something came out of a channel.
func taking(e api.Event) bool { return fromChannel(e) && e.Mode == 1 }

func foundClosed(e api.Event) bool { return fromChannel(e) && e.Mode == 2 }

func fromChannel(e api.Event) bool { return e.Op == api.Recv || e.Op == api.Poll }
