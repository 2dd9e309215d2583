package cfg_test

import (
	"math"
	"slices"
	"testing"

	"interlock/api"
	"interlock/bits"
	"interlock/cfg"
)

// odd are numbers that are places of little code, or of none.
var odd = []int{math.MinInt, math.MinInt + 1, -1 << 32, -64, -2, -1, 0, 1, 2, 3, 63, 64, 65, 1 << 32, math.MaxInt - 1, math.MaxInt}

// graph is written as its lists stand behind one another.
type graph = [][]int

func to(l ...int) []int { return l }

func jump(a int) api.Ins { return api.Ins{Op: api.Jump, A: a} }
func zero(b int) api.Ins { return api.Ins{Op: api.Zero, B: b} }

// same says whether two lists of lists tell the same; nil and empty ones do.
func same(a, b [][]int) bool {
	return slices.EqualFunc(a, b, func(x, y []int) bool { return slices.Equal(x, y) })
}

func succs(t *testing.T, code []api.Ins, want ...[]int) {
	t.Helper()
	if got := cfg.Succs(code); !same(got, want) {
		t.Errorf("Succs of %v: %v, not %v", code, got, want)
	}
}

func preds(t *testing.T, g graph, want ...[]int) {
	t.Helper()
	if got := cfg.Preds(g); !same(got, want) {
		t.Errorf("Preds of %v: %v, not %v", g, got, want)
	}
}

// reach holds Reach to the nodes that must be come to.
func reach(t *testing.T, g graph, come ...int) {
	t.Helper()
	want := make([]bool, len(g))
	for _, i := range come {
		want[i] = true
	}
	if got := cfg.Reach(g); !slices.Equal(got, want) {
		t.Errorf("Reach of %v: %v, not %v", g, got, want)
	}
}

func TestExample(t *testing.T) {
	code := []api.Ins{{Op: api.Zero, A: 0, B: 2}, {}, {}}
	succs(t, code, to(1, 2), to(2), to(3))
	if s := cfg.Doms(cfg.Succs(code))[2]; !slices.Equal(bits.List(s), to(0, 2)) {
		t.Errorf("Doms of 2: %v", bits.List(s))
	}
}

func TestSuccsOfNothing(t *testing.T) {
	succs(t, nil)
	succs(t, []api.Ins{})
}

func TestSuccsOfJump(t *testing.T) {
	succs(t, []api.Ins{jump(0)}, to(0))
	succs(t, []api.Ins{jump(2), {}, jump(0), {}}, to(2), to(2), to(0), to(4))
	succs(t, []api.Ins{{}, jump(1), jump(3)}, to(1), to(1), to(3))
	// Only A is a place.
	succs(t, []api.Ins{{Op: api.Jump, A: 1, B: 7, C: 9}, {}}, to(1), to(2))
	for _, a := range odd {
		succs(t, []api.Ins{{}, jump(a), {}}, to(1), to(a), to(3))
	}
}

func TestSuccsOfZero(t *testing.T) {
	for b, want := range [][]int{to(0, 2), to(1, 2), to(2), to(2, 3), to(2, 4), to(2, 5)} {
		succs(t, []api.Ins{{}, zero(b), {}, {}}, to(1), want, to(3), to(4))
	}
	succs(t, []api.Ins{zero(0)}, to(0, 1))
	succs(t, []api.Ins{zero(1)}, to(1))
	// Only B is a place; whatever the register, it may be 0, and may not be.
	succs(t, []api.Ins{{Op: api.Zero, A: 3, B: 0, C: 9}, {}}, to(0, 1), to(2))
	for _, b := range odd {
		want := to(2, b)
		if b < 2 {
			want = to(b, 2)
		}
		if b == 2 {
			want = to(2)
		}
		succs(t, []api.Ins{{}, zero(b), {}}, to(1), want, to(3))
	}
}

func TestSuccsOfOthers(t *testing.T) {
	for op := range 256 {
		if op == int(api.Jump) || op == int(api.Zero) {
			continue
		}
		for _, n := range odd {
			in := api.Ins{Op: uint8(op), A: n, B: n, C: n}
			succs(t, []api.Ins{in, in, in}, to(1), to(2), to(3))
		}
	}
}

func TestPreds(t *testing.T) {
	preds(t, nil)
	preds(t, graph{})
	preds(t, graph{nil}, nil)
	preds(t, graph{to(0)}, to(0))
	preds(t, graph{to(1), to(1)}, nil, to(0, 1))
	preds(t, graph{to(1), to(2), to(3)}, nil, to(0), to(1))
	// Rising, however the lists stand.
	preds(t, graph{to(3, 1), to(3, 0), to(0, 3), to(3)}, to(1, 2), to(0), nil, to(0, 1, 2, 3))
	// Each once: told twice in a row, with another between, thrice.
	preds(t, graph{to(1, 1), to(0, 1, 0), to(2, 1, 2, 2)}, to(1), to(0, 1, 2), to(2))
	// Of one that is not come to, too.
	preds(t, graph{nil, to(0), to(1)}, to(1), to(2), nil)
}

func TestPredsOfWhatIsNoNode(t *testing.T) {
	for _, n := range odd {
		if n == 0 || n == 1 {
			continue
		}
		preds(t, graph{to(n)}, nil)
		preds(t, graph{to(n, 1), to(n, n, 0, n, 1)}, to(1), to(0, 1))
	}
	preds(t, graph{to(1), to(2)}, nil, to(0))
}

func TestReach(t *testing.T) {
	reach(t, nil)
	reach(t, graph{})
	reach(t, graph{nil}, 0)
	reach(t, graph{to(0)}, 0)
	reach(t, graph{to(1)}, 0)
	reach(t, graph{nil, nil}, 0)
	reach(t, graph{nil, to(0)}, 0)
	reach(t, graph{nil, to(1)}, 0)
	// Through several others only, forth and back.
	reach(t, graph{to(1), to(2), to(3), to(4)}, 0, 1, 2, 3)
	reach(t, graph{to(4), nil, to(1), to(2), to(3)}, 0, 1, 2, 3, 4)
	reach(t, graph{to(3), to(4), to(1), to(2), nil, to(5)}, 0, 1, 2, 3, 4)
	// Through the last of many, and the first.
	reach(t, graph{to(1, 2, 3), nil, nil, to(4), nil}, 0, 1, 2, 3, 4)
	reach(t, graph{to(1, 2, 3), to(4), nil, nil, nil}, 0, 1, 2, 3, 4)
	// Nothing comes to 3 and 4 but each other.
	reach(t, graph{to(1), to(2), to(0), to(4, 1), to(3, 2)}, 0, 1, 2)
	// Rounds within rounds.
	reach(t, graph{to(1), to(2, 0), to(3, 1), to(2, 0), to(0)}, 0, 1, 2, 3)
	reach(t, graph{to(0, 2), nil, to(2, 0, 2)}, 0, 2)
}

func TestReachOfWhatIsNoNode(t *testing.T) {
	for _, n := range odd {
		if n == 0 || n == 1 || n == 2 {
			continue
		}
		reach(t, graph{to(n)}, 0)
		reach(t, graph{to(n, 2), nil, to(n, n, 0)}, 0, 2)
	}
	reach(t, graph{to(1, 2), nil}, 0, 1)
}
