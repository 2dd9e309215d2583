package clock_test

import (
	"math"
	"slices"
	"testing"

	"interlock/clock"
)

// long is a clock of n places, none of which is 0.
func long(n int) []int {
	a := make([]int, n)
	for i := range a {
		a[i] = i%7 + 1
	}
	return a
}

// outside are places that no tick is at; some are 0, 1 or 63 modulo 64, and one is 5 modulo 2^32.
var outside = []int{
	math.MinInt, math.MinInt + 1, -64, -63, -2, -1,
	64, 65, 127, 128, 1<<32 + 5, math.MaxInt - 1, math.MaxInt,
}

func TestExample(t *testing.T) {
	if c := clock.Join([]int{1, 4}, []int{3}); !slices.Equal(c, []int{3, 4}) {
		t.Errorf("Join = %v", c)
	}
	if c := clock.Tick([]int{1}, 2); !slices.Equal(c, []int{1, 0, 1}) {
		t.Errorf("Tick = %v", c)
	}
}

func TestAt(t *testing.T) {
	a := []int{5, -3, math.MaxInt, math.MinInt}
	for i, want := range a {
		if n := clock.At(a, i); n != want {
			t.Errorf("At(%v, %d) = %d", a, i, n)
		}
	}
	for _, i := range append([]int{4, 5, 63}, outside...) {
		if n := clock.At(a, i); n != 0 {
			t.Errorf("At(%v, %d) = %d", a, i, n)
		}
	}
	for _, i := range append([]int{0, 1}, outside...) {
		if clock.At(nil, i) != 0 || clock.At([]int{}, i) != 0 {
			t.Errorf("At of an empty one, %d", i)
		}
	}
	if n := clock.At(long(100), 99); n != 2 {
		t.Errorf("At beyond where ticks may be = %d", n)
	}
}

func TestJoin(t *testing.T) {
	for _, c := range []struct{ a, b, want []int }{
		{nil, nil, nil},
		{nil, []int{}, nil},
		{nil, []int{1, 2}, []int{1, 2}},
		{[]int{}, []int{0, 0}, []int{0, 0}},
		{[]int{1, 5, 2}, []int{2, 4, 2}, []int{2, 5, 2}},
		{[]int{1}, []int{0, 7, 0}, []int{1, 7, 0}},
		{[]int{9, 7, 0}, []int{2}, []int{9, 7, 0}},
		{[]int{-1}, []int{-2}, []int{-1}},
		{[]int{-4, -3}, []int{-5}, []int{-4, 0}},
		{[]int{-1, -2, 3, -4}, nil, []int{0, 0, 3, 0}},
		{[]int{math.MinInt, math.MaxInt}, []int{math.MaxInt, math.MinInt}, []int{math.MaxInt, math.MaxInt}},
		{long(100), []int{8}, append([]int{8}, long(100)[1:]...)},
	} {
		if j := clock.Join(c.a, c.b); !slices.Equal(j, c.want) {
			t.Errorf("Join(%v, %v) = %v, not %v", c.a, c.b, j, c.want)
		}
		if j := clock.Join(c.b, c.a); !slices.Equal(j, c.want) {
			t.Errorf("Join(%v, %v) = %v, not %v", c.b, c.a, j, c.want)
		}
	}
}

func TestTick(t *testing.T) {
	for _, c := range []struct {
		a    []int
		i    int
		want []int
	}{
		{nil, 0, []int{1}},
		{[]int{}, 0, []int{1}},
		{nil, 3, []int{0, 0, 0, 1}},
		{[]int{4, 5, 6}, 0, []int{5, 5, 6}},
		{[]int{4, 5, 6}, 1, []int{4, 6, 6}},
		{[]int{4, 5, 6}, 2, []int{4, 5, 7}},
		{[]int{4, 5, 6}, 3, []int{4, 5, 6, 1}},
		{[]int{4, 5, 6}, 5, []int{4, 5, 6, 0, 0, 1}},
		{[]int{-1, -8}, 0, []int{0, -8}},
		{[]int{-1, -8}, 1, []int{-1, -7}},
		{[]int{math.MaxInt}, 0, []int{math.MinInt}},
		{nil, 63, append(make([]int, 63), 1)},
		{long(63), 63, append(long(63), 1)},
		{long(64), 63, append(long(63), 2)},
		{long(100), 0, append([]int{2}, long(100)[1:]...)},
	} {
		if d := clock.Tick(c.a, c.i); !slices.Equal(d, c.want) {
			t.Errorf("Tick(%v, %d) = %v, not %v", c.a, c.i, d, c.want)
		}
	}
}

func TestTickNowhere(t *testing.T) {
	for _, a := range [][]int{nil, {}, {0}, {1, -2, 3}, long(64), long(65), long(200)} {
		for _, i := range outside {
			if c := clock.Tick(a, i); !slices.Equal(c, a) {
				t.Errorf("Tick(%v, %d) = %v", a, i, c)
			}
		}
	}
}

func TestWithinAndSame(t *testing.T) {
	for _, c := range []struct {
		a, b      []int
		forth, to bool
	}{
		{nil, nil, true, true},
		{nil, []int{}, true, true},
		{nil, []int{0, 0}, true, true},
		{nil, []int{0, 1}, true, false},
		{nil, []int{0, -1}, false, true},
		{nil, []int{1, -1}, false, false},
		{[]int{1, 2}, []int{1, 2}, true, true},
		{[]int{1, 2}, []int{1, 3}, true, false},
		{[]int{1, 2}, []int{2, 1}, false, false},
		{[]int{1, 2}, []int{1, 2, 0}, true, true},
		{[]int{1, 2}, []int{1, 2, 0, 5}, true, false},
		{[]int{1, 2}, []int{1, 2, 0, -5}, false, true},
		{[]int{1, 2}, []int{1, 2, 4, -5}, false, false},
		{[]int{1, 3}, []int{1, 2, 4}, false, false},
		{[]int{1, 1}, []int{1, 2, -4}, false, false},
		{[]int{math.MinInt}, []int{math.MaxInt}, true, false},
		{long(100), append(long(99), 3), true, false},
	} {
		if w := clock.Within(c.a, c.b); w != c.forth {
			t.Errorf("Within(%v, %v) = %t", c.a, c.b, w)
		}
		if w := clock.Within(c.b, c.a); w != c.to {
			t.Errorf("Within(%v, %v) = %t", c.b, c.a, w)
		}
		same := c.forth && c.to
		if clock.Same(c.a, c.b) != same || clock.Same(c.b, c.a) != same {
			t.Errorf("Same(%v, %v) is not %t", c.a, c.b, same)
		}
	}
}
