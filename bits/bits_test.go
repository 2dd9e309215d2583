package bits_test

import (
	"math"
	"slices"
	"testing"

	"interlock/bits"
)

// sets are ordinary ones and edges: none, all, each end alone, and digits without a pattern.
var sets = []uint64{
	0, 1, 2, 22, 1 << 31, 1 << 32, 1 << 62, 1 << 63, 1<<63 | 1,
	0x5555555555555555, 0xaaaaaaaaaaaaaaaa, 0x0123456789abcdef,
	math.MaxUint32, math.MaxUint64 - 1, math.MaxUint64,
}

// outside are numbers that no set tells of. Modulo 64 some are 0, 1 or 63: a shift that wraps round shows.
var outside = []int{
	math.MinInt, math.MinInt + 1, -128, -65, -64, -63, -2, -1,
	64, 65, 127, 128, 129, 1 << 32, math.MaxInt - 1, math.MaxInt,
}

// digits reads a set's numbers off by halving it, so that the tests lean on none of the calls.
func digits(s uint64) []int {
	var l []int
	for i := 0; s != 0; i++ {
		if s%2 == 1 {
			l = append(l, i)
		}
		s /= 2
	}
	return l
}

// sum is the set of numbers from 0 to 63, made by doubling.
func sum(l []int) uint64 {
	s := uint64(0)
	for i := 63; i >= 0; i-- {
		s *= 2
		if slices.Contains(l, i) {
			s++
		}
	}
	return s
}

func TestExamples(t *testing.T) {
	if l := bits.List(22); !slices.Equal(l, []int{1, 2, 4}) {
		t.Errorf("List(22) = %v", l)
	}
	if n := bits.First(22, 3); n != 4 {
		t.Errorf("First(22, 3) = %d", n)
	}
	if s := bits.All(3); s != 7 {
		t.Errorf("All(3) = %d", s)
	}
}

func TestHas(t *testing.T) {
	for _, s := range sets {
		l := digits(s)
		for i := 0; i <= 63; i++ {
			if bits.Has(s, i) != slices.Contains(l, i) {
				t.Errorf("Has(%#x, %d) = %v", s, i, bits.Has(s, i))
			}
		}
	}
}

func TestHasOutside(t *testing.T) {
	for _, s := range sets {
		for _, i := range outside {
			if bits.Has(s, i) {
				t.Errorf("Has(%#x, %d)", s, i)
			}
		}
	}
}

func TestWithAndWithoutOne(t *testing.T) {
	for _, s := range sets {
		l := digits(s)
		for i := 0; i <= 63; i++ {
			if got, want := bits.With(s, i), sum(append(l[:len(l):len(l)], i)); got != want {
				t.Errorf("With(%#x, %d) = %#x, not %#x", s, i, got, want)
			}
			rest := slices.DeleteFunc(slices.Clone(l), func(n int) bool { return n == i })
			if got, want := bits.Without(s, i), sum(rest); got != want {
				t.Errorf("Without(%#x, %d) = %#x, not %#x", s, i, got, want)
			}
		}
	}
}

func TestWithMany(t *testing.T) {
	for _, c := range []struct {
		s    uint64
		l    []int
		want uint64
	}{
		{0, nil, 0},
		{0, []int{}, 0},
		{22, nil, 22},
		{math.MaxUint64, []int{}, math.MaxUint64},
		{0, []int{1, 2, 4}, 22},
		{0, []int{4, 1, 2}, 22},
		{0, []int{3, 3}, 8},
		{8, []int{3, 3, 3}, 8},
		{16, []int{2, 1, 2, 1}, 22},
		{0, []int{0, 63}, 1<<63 | 1},
		{0, []int{1, 2, 64}, 6},
		{0, []int{64, 1, -1, 2, 65}, 6},
		{22, []int{-1, 64, -64, 128}, 22},
	} {
		if got := bits.With(c.s, c.l...); got != c.want {
			t.Errorf("With(%#x, %v) = %#x, not %#x", c.s, c.l, got, c.want)
		}
	}
}

func TestWithoutMany(t *testing.T) {
	for _, c := range []struct {
		s    uint64
		l    []int
		want uint64
	}{
		{0, nil, 0},
		{22, nil, 22},
		{22, []int{}, 22},
		{22, []int{1, 4}, 4},
		{22, []int{4, 1}, 4},
		{22, []int{1, 1}, 20},
		{22, []int{0, 3, 5}, 22},
		{22, []int{4, 2, 1, 2}, 0},
		{1<<63 | 1, []int{63, 0}, 0},
		{22, []int{-1, 1, 64, 4, 66}, 4},
		{math.MaxUint64, []int{-1, 64, -64, 128}, math.MaxUint64},
	} {
		if got := bits.Without(c.s, c.l...); got != c.want {
			t.Errorf("Without(%#x, %v) = %#x, not %#x", c.s, c.l, got, c.want)
		}
	}
}

func TestWithAndWithoutNothing(t *testing.T) {
	for _, s := range sets {
		if bits.With(s) != s || bits.Without(s) != s {
			t.Errorf("of %#x: With() = %#x, Without() = %#x", s, bits.With(s), bits.Without(s))
		}
	}
}

func TestWithAndWithoutOutside(t *testing.T) {
	for _, s := range sets {
		if got := bits.With(s, outside...); got != s {
			t.Errorf("With(%#x, outside) = %#x", s, got)
		}
		if got := bits.Without(s, outside...); got != s {
			t.Errorf("Without(%#x, outside) = %#x", s, got)
		}
	}
}

// What is with it is in it; what is without it is not; all others stay as they were.
func TestWhatHolds(t *testing.T) {
	for _, s := range sets {
		for _, o := range sets {
			l := append(digits(o), 64, -1)
			with, without := bits.With(s, l...), bits.Without(s, l...)
			for i := 0; i <= 63; i++ {
				named, was := slices.Contains(l, i), bits.Has(s, i)
				if bits.Has(with, i) != (was || named) {
					t.Errorf("With(%#x, %v): %d", s, l, i)
				}
				if bits.Has(without, i) != (was && !named) {
					t.Errorf("Without(%#x, %v): %d", s, l, i)
				}
			}
		}
	}
}

func TestListAndCount(t *testing.T) {
	for _, s := range sets {
		want := digits(s)
		if got := bits.List(s); !slices.Equal(got, want) {
			t.Errorf("List(%#x) = %v, not %v", s, got, want)
		}
		if got := bits.Count(s); got != len(want) {
			t.Errorf("Count(%#x) = %d, not %d", s, got, len(want))
		}
	}
	for i := range 64 {
		if l := bits.List(1 << i); !slices.Equal(l, []int{i}) {
			t.Errorf("List of %d alone = %v", i, l)
		}
	}
}

func TestListAndCountEdges(t *testing.T) {
	if l := bits.List(0); len(l) != 0 || bits.Count(0) != 0 {
		t.Errorf("of none: List %v, Count %d", l, bits.Count(0))
	}
	l := bits.List(math.MaxUint64)
	if len(l) != 64 || l[0] != 0 || l[63] != 63 || bits.Count(math.MaxUint64) != 64 {
		t.Errorf("of all: List %v, Count %d", l, bits.Count(math.MaxUint64))
	}
}

func TestFirst(t *testing.T) {
	for _, s := range sets {
		l := digits(s)
		for from := -2; from <= 66; from++ {
			want := -1
			if k := slices.IndexFunc(l, func(n int) bool { return n >= from }); k >= 0 {
				want = l[k]
			}
			if got := bits.First(s, from); got != want {
				t.Errorf("First(%#x, %d) = %d, not %d", s, from, got, want)
			}
		}
	}
}

func TestFirstEdges(t *testing.T) {
	for _, c := range []struct {
		s    uint64
		from int
		want int
	}{
		{22, math.MinInt, 1},
		{22, -1, 1},
		{22, 0, 1},
		{22, 4, 4},
		{22, 5, -1},
		{22, 63, -1},
		{22, 64, -1},
		{22, math.MaxInt, -1},
		{1, -64, 0},
		{1, 1, -1},
		{1, 64, -1},
		{1 << 63, 0, 63},
		{1 << 63, 63, 63},
		{1 << 63, 64, -1},
		{math.MaxUint64, 64, -1},
		{math.MaxUint64, math.MaxInt, -1},
		{math.MaxUint64, math.MinInt, 0},
		{0, 0, -1},
		{0, -5, -1},
		{0, math.MinInt, -1},
	} {
		if got := bits.First(c.s, c.from); got != c.want {
			t.Errorf("First(%#x, %d) = %d, not %d", c.s, c.from, got, c.want)
		}
	}
}

func TestAll(t *testing.T) {
	want := uint64(0)
	for n := 0; n <= 64; n++ {
		if got := bits.All(n); got != want {
			t.Errorf("All(%d) = %#x, not %#x", n, got, want)
		}
		want = want*2 + 1
	}
}

func TestAllEdges(t *testing.T) {
	for _, n := range []int{math.MinInt, -128, -65, -64, -63, -1, 0} {
		if got := bits.All(n); got != 0 {
			t.Errorf("All(%d) = %#x", n, got)
		}
	}
	for _, n := range []int{64, 65, 127, 128, 1 << 32, math.MaxInt} {
		if got := bits.All(n); got != math.MaxUint64 {
			t.Errorf("All(%d) = %#x", n, got)
		}
	}
}

// R2: a list that is handed in stays as it was, and what lies behind its length is not read.
func TestArgumentsAreLeftAlone(t *testing.T) {
	memory := []int{4, 64, 1, 1, -1, 5, 6}
	was := slices.Clone(memory)
	if got := bits.With(0, memory[:5]...); got != 18 {
		t.Errorf("With read behind the list: %#x", got)
	}
	if got := bits.Without(255, memory[:5]...); got != 255-18 {
		t.Errorf("Without read behind the list: %#x", got)
	}
	if !slices.Equal(memory, was) {
		t.Errorf("the argument is %v, was %v", memory, was)
	}
}

// R2, R4: what comes out is new memory, and no call knows of another one.
func TestListIsNewMemory(t *testing.T) {
	a, b := bits.List(22), bits.List(22)
	for i := range a[:cap(a)] {
		a[:cap(a)][i] = 99
	}
	for _, l := range [][]int{b, bits.List(22)} {
		if !slices.Equal(l, []int{1, 2, 4}) {
			t.Errorf("List(22) = %v behind a change of another one", l)
		}
	}
}

// R2: what lies behind the list's length is not handed out with anything in it.
func TestListHidesNothing(t *testing.T) {
	for _, s := range sets {
		l := bits.List(s)
		for _, n := range l[len(l):cap(l)] {
			if n != 0 {
				t.Errorf("behind List(%#x) stands %d", s, n)
			}
		}
	}
}

// T7: whatever a call is given, it answers.
func TestAnyInput(t *testing.T) {
	for _, s := range sets {
		for _, i := range append([]int{0, 1, 31, 32, 62, 63}, outside...) {
			bits.Has(s, i)
			bits.With(s, i, i)
			bits.Without(s, i, i)
			bits.First(s, i)
			bits.All(i)
		}
	}
}
