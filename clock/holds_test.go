package clock_test

import (
	"math"
	"slices"
	"testing"

	"interlock/clock"
)

// sequence is a row of numbers that hangs on nothing but where it began.
type sequence uint64

// below is the next number, from 0 to n - 1.
func (s *sequence) below(n int) int {
	*s = *s*6364136223846793005 + 1442695040888963407
	return int(uint64(*s) >> 33 % uint64(n))
}

// clock is one of at most so many places, each with a number from least to least + 3.
func (s *sequence) clock(most, least int) []int {
	a := make([]int, s.below(most+1))
	for i := range a {
		a[i] = least + s.below(4)
	}
	return a
}

// wide is as many places as a second account of the calls looks at: beyond all that the tests hand in.
const wide = 70

// spread is a clock with its noughts written out.
func spread(a []int) [wide]int {
	var w [wide]int
	copy(w[:], a)
	return w
}

// under says whether one clock is nowhere greater, of clocks that are spread.
func under(a, b [wide]int) bool {
	for i := range wide {
		if a[i] > b[i] {
			return false
		}
	}
	return true
}

func TestAgainstSpread(t *testing.T) {
	s := sequence(6)
	for range 20000 {
		a, b := s.clock(5, -s.below(3)), s.clock(5, -s.below(3))
		v, w := spread(a), spread(b)
		if got, want := clock.Within(a, b), under(v, w); got != want {
			t.Fatalf("Within(%v, %v) = %t", a, b, got)
		}
		if got, want := clock.Same(a, b), v == w; got != want {
			t.Fatalf("Same(%v, %v) = %t", a, b, got)
		}
		i := s.below(64)
		if got := clock.At(a, i); got != v[i] {
			t.Fatalf("At(%v, %d) = %d", a, i, got)
		}
		j := v
		for k, n := range w {
			if n > j[k] {
				j[k] = n
			}
		}
		if got := clock.Join(a, b); spread(got) != j || len(got) != max(len(a), len(b)) {
			t.Fatalf("Join(%v, %v) = %v", a, b, got)
		}
		v[i]++
		if got := clock.Tick(a, i); spread(got) != v || len(got) != max(len(a), i+1) {
			t.Fatalf("Tick(%v, %d) = %v", a, i, got)
		}
	}
}

// TestJoinIsLeast goes through all clocks of three places with numbers from 0 to 2, and shorter ones.
func TestJoinIsLeast(t *testing.T) {
	clocks := [][]int{nil}
	for from := 0; from < len(clocks); from++ {
		if a := clocks[from]; len(a) < 3 {
			for n := range 3 {
				clocks = append(clocks, append(slices.Clone(a), n))
			}
		}
	}
	for _, a := range clocks {
		for _, b := range clocks {
			j := clock.Join(a, b)
			for _, c := range append(clocks, j) {
				if both := clock.Within(a, c) && clock.Within(b, c); both != clock.Within(j, c) {
					t.Fatalf("Join(%v, %v) = %v, and %v", a, b, j, c)
				}
			}
		}
	}
}

func TestJoinOfThreeAndOfItself(t *testing.T) {
	s := sequence(60)
	for range 5000 {
		a, b, c := s.clock(5, 0), s.clock(5, 0), s.clock(5, 0)
		if !slices.Equal(clock.Join(a, a), a) {
			t.Fatalf("Join of %v and itself", a)
		}
		if !slices.Equal(clock.Join(clock.Join(a, b), c), clock.Join(a, clock.Join(b, c))) {
			t.Fatalf("Join of %v, %v and %v", a, b, c)
		}
	}
}

func TestTicksInEitherOrder(t *testing.T) {
	s := sequence(600)
	for range 5000 {
		a := s.clock(66, -2)
		i, j := s.below(64), s.below(64)
		one, other := clock.Tick(clock.Tick(a, i), j), clock.Tick(clock.Tick(a, j), i)
		if !slices.Equal(one, other) || !clock.Same(one, other) {
			t.Fatalf("ticks of %v at %d and %d: %v, %v", a, i, j, one, other)
		}
		if clock.Same(a, one) || clock.At(one, i)+clock.At(one, j) <= clock.At(a, i)+clock.At(a, j) {
			t.Fatalf("ticks of %v at %d and %d: %v", a, i, j, one)
		}
	}
}

// roomy is a clock in a longer memory, which has junk ahead of it and behind it; the whole is handed out beside it.
func roomy(a []int) (in, whole []int) {
	const junk, ahead, behind = -99, 2, 80
	whole = slices.Repeat([]int{junk}, ahead+len(a)+behind)
	copy(whole[ahead:], a)
	return whole[ahead : ahead+len(a)], whole
}

// spoil writes over all that a list's memory holds.
func spoil(a []int) {
	a = a[:cap(a)]
	for i := range a {
		a[i] = math.MinInt
	}
}

func TestMemory(t *testing.T) {
	s := sequence(6000)
	for range 2000 {
		a, wholeA := roomy(s.clock(5, -1))
		b, wholeB := roomy(s.clock(5, -1))
		wasA, wasB := slices.Clone(wholeA), slices.Clone(wholeB)
		c, d := slices.Clone(a), slices.Clone(b)
		far := append([]int{0, 1, 2, 3, 4, 5, 6, 63}, outside...)
		i := far[s.below(len(far))]
		outs := [][]int{clock.Join(a, b), clock.Join(b, a), clock.Join(a, a), clock.Join(a, nil), clock.Join(nil, a), clock.Tick(a, i), clock.Tick(a, -1), clock.Tick(a, 64)}
		want := [][]int{clock.Join(c, d), clock.Join(d, c), clock.Join(c, c), clock.Join(c, nil), clock.Join(nil, c), clock.Tick(c, i), c, c}
		if clock.Within(a, b) != clock.Within(c, d) || clock.Same(a, b) != clock.Same(c, d) || clock.At(a, i) != clock.At(c, i) {
			t.Fatalf("what lies behind %v or %v was read", a, b)
		}
		for k, out := range outs {
			// One that is spoilt ahead of another one's turn shows what they share.
			if !slices.Equal(out, want[k]) {
				t.Fatalf("of %v, %v and %d: %v, not %v", c, d, i, out, want[k])
			}
			spoil(out)
		}
		if !slices.Equal(wholeA, wasA) || !slices.Equal(wholeB, wasB) {
			t.Fatalf("%v or %v was changed", c, d)
		}
	}
}
