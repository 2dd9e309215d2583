package cfg_test

import (
	"slices"
	"testing"

	"interlock/api"
	"interlock/bits"
	"interlock/cfg"
)

// doms holds Doms to sets, each written as the list of what is in it.
func doms(t *testing.T, g graph, want ...[]int) {
	t.Helper()
	var sets []uint64
	for _, l := range want {
		sets = append(sets, bits.With(0, l...))
	}
	if got := cfg.Doms(g); !slices.Equal(got, sets) {
		t.Errorf("Doms of %v: %b, not %b", g, got, sets)
	}
}

// chain has each node's next one behind it, and behind the last the end.
func chain(n int) graph {
	g := make(graph, n)
	for i := range g {
		g[i] = to(i + 1)
	}
	return g
}

// upward goes from 0 to the last node, and from there back one by one.
func upward(n int) graph {
	g := make(graph, n)
	for i := range g {
		g[i] = to((i + n - 1) % n)
	}
	return g
}

// both is upward, with a way from each node to the one that it is come from, too.
func both(n int) graph {
	g := upward(n)
	for i := range g {
		g[i] = append(g[i], (i+1)%n)
	}
	g[0] = g[0][:1]
	return g
}

// first are the numbers below n.
func first(n int) []int {
	l := make([]int, n)
	for i := range l {
		l[i] = i
	}
	return l
}

func TestDomsOfFew(t *testing.T) {
	doms(t, nil)
	doms(t, graph{})
	doms(t, graph{nil}, to(0))
	doms(t, graph{to(0)}, to(0))
	doms(t, graph{to(1, -1)}, to(0))
	doms(t, graph{to(1), nil}, to(0), to(0, 1))
	doms(t, graph{to(1), to(0, 1)}, to(0), to(0, 1))
	doms(t, graph{nil, nil}, to(0), nil)
	doms(t, graph{nil, to(0, 1)}, to(0), nil)
}

func TestDomsOfWaysThatMeet(t *testing.T) {
	doms(t, graph{to(1, 2), to(3), to(3), nil}, to(0), to(0, 1), to(0, 2), to(0, 3))
	// A way that is shorter counts.
	doms(t, graph{to(1), to(2, 3), to(3), nil}, to(0), to(0, 1), to(0, 1, 2), to(0, 1, 3))
	// They meet behind what both go through.
	doms(t, graph{to(1), to(2, 3), to(4), to(4), to(5), nil}, to(0), to(0, 1), to(0, 1, 2), to(0, 1, 3), to(0, 1, 4), to(0, 1, 4, 5))
	// The same, with the numbers the other way round.
	doms(t, graph{to(5), nil, to(1), to(2), to(2), to(3, 4)}, to(0), to(0, 1, 2, 5), to(0, 2, 5), to(0, 3, 5), to(0, 4, 5), to(0, 5))
	// A next one that is told twice is no other way.
	doms(t, graph{to(1, 1), to(2, 2), nil}, to(0), to(0, 1), to(0, 1, 2))
}

func TestDomsOfLoops(t *testing.T) {
	doms(t, graph{to(1), to(2), to(1, 3), to(4)}, to(0), to(0, 1), to(0, 1, 2), to(0, 1, 2, 3))
	// A way back to 0 takes nothing from it, nor gives it anything.
	doms(t, graph{to(1), to(2), to(0)}, to(0), to(0, 1), to(0, 1, 2))
	doms(t, graph{to(0, 1), to(0, 1)}, to(0), to(0, 1))
	// Two ways into a round: neither of it dominates the other.
	doms(t, graph{to(1, 2), to(2), to(1)}, to(0), to(0, 1), to(0, 2))
	// A loop in a loop.
	doms(t, graph{to(1), to(2), to(3), to(2, 4), to(1, 5), nil}, to(0), to(0, 1), first(3), first(4), first(5), first(6))
	// What is known of 1 changes by a way that comes to it from behind.
	doms(t, graph{to(3), to(2), nil, to(4, 2), to(1)}, to(0), to(0, 1, 3, 4), to(0, 2, 3), to(0, 3), to(0, 3, 4))
}

func TestDomsOfWhatIsNotComeTo(t *testing.T) {
	// 2 leads to 1, and nothing to 2: no way to 1 goes by it.
	doms(t, graph{to(1), nil, to(1)}, to(0), to(0, 1), nil)
	doms(t, graph{to(3), nil, to(3), to(4), to(4), to(2, 5)}, to(0), nil, nil, to(0, 3), to(0, 3, 4), nil)
	doms(t, graph{to(2), to(2, 0), to(3), nil}, to(0), nil, to(0, 2), to(0, 2, 3))
	// They lead to each other, and to all that is come to.
	doms(t, graph{to(1), to(0), to(3, 0, 1), to(2, 1, 0)}, to(0), to(0, 1), nil, nil)
	doms(t, graph{nil, to(2), to(0)}, to(0), nil, nil)
}

func TestDomsOfWhatIsNoNode(t *testing.T) {
	for _, n := range odd {
		if n >= 0 && n < 3 {
			continue
		}
		doms(t, graph{to(n), to(2), nil}, to(0), nil, nil)
		doms(t, graph{to(n, 1, n), to(n, 2), to(n)}, to(0), to(0, 1), first(3))
	}
}

func TestDomsOfMany(t *testing.T) {
	for _, n := range []int{2, 32, 63, 64} {
		got, back := cfg.Doms(chain(n)), cfg.Doms(upward(n))
		if len(got) != n || len(back) != n || back[0] != 1 {
			t.Fatalf("Doms of %d nodes: %b and %b", n, got, back)
		}
		if s := cfg.Doms(both(n)); !slices.Equal(s, back) {
			t.Errorf("Doms of %d nodes with ways back: %b", n, s)
		}
		for i := range n {
			if got[i] != bits.All(i+1) {
				t.Errorf("Doms of %d, of %d: %b", i, n, got[i])
			}
			if i > 0 && back[i] != bits.All(n)&^bits.All(i)|1 {
				t.Errorf("Doms of %d, of %d that go back: %b", i, n, back[i])
			}
		}
	}
	for _, n := range []int{api.MaxNodes + 1, 66, 100, 128, 1000, 100000} {
		doms(t, chain(n))
		doms(t, upward(n))
		doms(t, make(graph, n))
	}
}

// All nodes lead to all: each is come to at once.
func TestDomsWhereAllLeadToAll(t *testing.T) {
	g := make(graph, api.MaxNodes)
	for i := range g {
		g[i] = first(api.MaxNodes + 3)
	}
	for i, s := range cfg.Doms(g) {
		if s != bits.With(1, i) {
			t.Errorf("Doms of %d: %b", i, s)
		}
	}
}
