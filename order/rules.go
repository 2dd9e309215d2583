package order

import (
	"slices"

	"interlock/api"
)

// side says whether an event is one of a rule's, and what x it is of: a thread, or an Obj.
type side func(e api.Event) (x int, is bool)

// rule is how an event is ahead of a later one: each is of one of the rule's sides, and both are of the same x.
type rule struct {
	ahead  side
	behind side
	// which tells the numbers of those of the side ahead that are so, from first on, end not among them, of x, and where so many of either side stand ahead of the later one. Where it is nil, all that stand there are so.
	which func(x, ahead, behind int) (first, end int)
}

// rules are the chapter's nine, in its order; the third is two of the row.
func rules(p api.Program) [10]rule {
	thread := func(e api.Event) (int, bool) { return e.Thread, true }
	taking := mode(1, api.Recv, api.Poll)
	none := func(int) int { return 0 }
	room := func(x int) int {
		if x < 0 || x >= len(p.Chans) {
			return 0
		}
		return p.Chans[x]
	}
	fewer := func(e api.Event) (int, bool) { return e.Obj, e.Op == api.Grow && e.Value < 0 }
	return [...]rule{
		{ahead: thread, behind: thread},
		{ahead: ops(api.Go), behind: thread},
		{ahead: ops(api.Unlock), behind: ops(api.Lock, api.RLock)},
		{ahead: ops(api.RUnlock), behind: ops(api.Lock)},
		{ahead: ops(api.Write, api.Bump), behind: ops(api.Read, api.Bump), which: last},
		{ahead: ops(api.Send), behind: taking, which: paired(none)},
		{ahead: taking, behind: ops(api.Send), which: paired(room)},
		{ahead: ops(api.Close), behind: mode(2, api.Recv, api.Poll)},
		{ahead: fewer, behind: ops(api.Wait)},
		{ahead: ops(api.End), behind: mode(0, api.Begin)},
	}
}

// ops are the events of some instructions.
func ops(l ...uint8) side {
	return func(e api.Event) (int, bool) { return e.Obj, slices.Contains(l, e.Op) }
}

// mode are those of them that went so.
func mode(m int, l ...uint8) side {
	some := ops(l...)
	return func(e api.Event) (int, bool) {
		x, is := some(e)
		return x, is && e.Mode == m
	}
}

// last is the one behind which there is no other.
func last(_, ahead, _ int) (int, int) { return max(ahead-1, 0), ahead }

// paired is the one whose number and the room of x together are the number of the one behind.
func paired(room func(x int) int) func(x, ahead, behind int) (int, int) {
	return func(x, ahead, behind int) (int, int) {
		n := behind - room(x)
		if n < 0 || n >= ahead {
			return 0, 0
		}
		return n, n + 1
	}
}

// holds says whether the i-th event is ahead of the j-th, which is a later one, by the rule.
func (r rule) holds(t []api.Event, i, j int) bool {
	x, ahead := r.ahead(t[i])
	y, behind := r.behind(t[j])
	if !ahead || !behind || x != y {
		return false
	}
	if r.which == nil {
		return true
	}
	first, end := r.which(x, count(t[:j], r.ahead, x), count(t[:j], r.behind, x))
	n := count(t[:i], r.ahead, x)
	return first <= n && n < end
}

// count is how many events are of a side, and of x.
func count(t []api.Event, s side, x int) int {
	n := 0
	for _, e := range t {
		if y, is := s(e); is && y == x {
			n++
		}
	}
	return n
}
