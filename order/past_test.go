package order_test

import (
	"slices"
	"testing"

	"interlock/api"
	"interlock/order"
)

// passed is how a lock goes from thread to thread, each with a Store ahead of its Unlock: 0 to 1, 1 to 2, and so on.
func passed(threads int) []api.Event {
	var l []api.Event
	for k := range threads {
		l = append(l, of(k, api.Lock, 0), of(k, api.Store, 0), of(k, api.Unlock, 0))
	}
	return l
}

func TestBeforeThroughOthers(t *testing.T) {
	p := api.Program{}
	l := passed(6)
	for i := range l {
		for j := range l {
			first, second := i/3, j/3
			one := i%3 == 2 && j%3 == 0 && first < second
			if is := order.Direct(p, l, i, j); is != (i < j && (first == second || one)) {
				t.Errorf("Direct of %d and %d: %t", i, j, is)
			}
			if is := order.Before(p, l, i, j); is != (i < j) {
				t.Errorf("Before of %d and %d: %t", i, j, is)
			}
		}
	}
	// Through nothing, one, two and three others.
	l = []api.Event{of(0, api.Store, 0), of(0, api.Go, 1), of(1, api.Unlock, 0), of(2, api.RLock, 0), of(2, api.Load, 0)}
	for j := 1; j < 5; j++ {
		if !order.Before(p, l, 0, j) || order.Direct(p, l, 0, j) != (j == 1) {
			t.Errorf("Before of 0 and %d", j)
		}
	}
}

func TestBeforeWhereThereIsNoRow(t *testing.T) {
	p := api.Program{}
	// Both wrote the same atom, and a lock that was only read goes on to none that reads it.
	l := []api.Event{of(0, api.Store, 0), of(0, api.Write, 0), of(0, api.RUnlock, 0), of(1, api.Write, 0), of(1, api.RLock, 0), of(1, api.Load, 0)}
	for i := range 3 {
		for j := 3; j < 6; j++ {
			if order.Before(p, l, i, j) || order.Before(p, l, j, i) {
				t.Errorf("Before of %d and %d", i, j)
			}
		}
	}
	// A row has to rise: what the thread did behind its Unlock is not ahead of the Lock.
	l = []api.Event{of(0, api.Unlock, 0), of(0, api.Store, 0), of(1, api.Lock, 0), of(1, api.Load, 0)}
	if order.Before(p, l, 1, 2) || order.Before(p, l, 1, 3) || !order.Before(p, l, 0, 3) {
		t.Error("a row that does not rise")
	}
	// What lies behind the later one is nothing to it.
	l = []api.Event{of(0, api.Store, 0), of(1, api.Load, 0), of(0, api.Unlock, 0), of(1, api.Lock, 0)}
	if order.Before(p, l, 0, 1) || !order.Before(p, l, 0, 3) {
		t.Error("what lies behind")
	}
}

// A Write that hides another one goes on from it only if it has heard of it itself.
func TestBeforeThroughAtoms(t *testing.T) {
	p := api.Program{}
	for _, c := range []struct {
		between api.Event
		must    bool
	}{{of(2, api.Write, 0), false}, {of(2, api.Bump, 0), true}, {of(2, api.Bump, 1), true}, {of(2, api.Read, 0), true}, {of(0, api.Write, 0), true}} {
		l := []api.Event{of(0, api.Store, 0), of(0, api.Write, 0), c.between, of(1, api.Read, 0), of(1, api.Load, 0)}
		if order.Before(p, l, 0, 4) != c.must || order.Before(p, l, 1, 3) != c.must {
			t.Errorf("with %v between: %t", c.between, !c.must)
		}
	}
}

// past holds Past of a place to what it must be.
func past(t *testing.T, p api.Program, l []api.Event, j int, want ...int) {
	t.Helper()
	if got := order.Past(p, l, j); !slices.Equal(got, want) {
		t.Errorf("Past of %d: %v, not %v", j, got, want)
	}
}

func TestPast(t *testing.T) {
	p := chans(1)
	l := []api.Event{
		0:  of(0, api.Go, 1),
		1:  of(1, api.Store, 0),
		2:  of(0, api.Send, 0),
		3:  of(2, api.Store, 1),
		4:  went(1, api.Recv, 0, 1),
		5:  of(0, api.Send, 0),
		6:  of(2, api.Unlock, 3),
		7:  of(0, api.Load, 0),
		8:  of(3, api.RLock, 3),
		9:  of(3, api.Load, 1),
		10: of(4, api.Nop, 0),
	}
	past(t, p, l, 0)
	past(t, p, l, 1, 0)
	past(t, p, l, 2, 0)
	past(t, p, l, 3)
	past(t, p, l, 4, 0, 1, 2)
	past(t, p, l, 5, 0, 1, 2, 4)
	past(t, p, l, 6, 3)
	past(t, p, l, 7, 0, 1, 2, 4, 5)
	past(t, p, l, 8, 3, 6)
	past(t, p, l, 9, 3, 6, 8)
	past(t, p, l, 10)
}

// Each is there once, though many ways lead to it.
func TestPastTellsEachOnce(t *testing.T) {
	var l []api.Event
	for k := range 40 {
		l = append(l, of(k%4, api.Unlock, 0), of(k%4, api.Lock, 0), of(k%4, api.Bump, k%2), grew(k%4, -1), of(k%4, api.Wait, 1))
	}
	for j := range l {
		got := order.Past(api.Program{}, l, j)
		if !slices.IsSorted(got) || len(slices.Compact(slices.Clone(got))) != len(got) || slices.Contains(got, j) {
			t.Fatalf("Past of %d: %v", j, got)
		}
	}
	past(t, api.Program{}, l[:4], 3, 0, 1, 2)
}

func TestPastWherePlacesAreNone(t *testing.T) {
	l := passed(3)
	for _, j := range append([]int{len(l), len(l) + 1}, far...) {
		past(t, api.Program{}, l, j)
		past(t, api.Program{}, nil, j)
	}
	past(t, api.Program{}, nil, 0)
	past(t, api.Program{}, []api.Event{}, 0)
	past(t, api.Program{}, l[:3], 3)
}
