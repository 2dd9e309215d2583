package cfg_test

import (
	"math"
	"slices"
	"testing"
	"time"

	"interlock/api"
	"interlock/bits"
	"interlock/cfg"
	"interlock/ir"
)

// account is a second one of the layer, written as the chapter has it.
type account graph

// leads says whether j is a next one of i.
func (c account) leads(i, j int) bool { return slices.Contains(c[i], j) }

// ways are all nodes that ways from 0 come to, none of which goes through one node.
func (c account) ways(without int) []bool {
	come := make([]bool, len(c))
	var walk func(i int)
	walk = func(i int) {
		if i == without || come[i] {
			return
		}
		come[i] = true
		for j := range c {
			if c.leads(i, j) {
				walk(j)
			}
		}
	}
	if len(c) > 0 {
		walk(0)
	}
	return come
}

func (c account) preds() [][]int {
	l := make([][]int, len(c))
	for j := range c {
		for i := range c {
			if c.leads(i, j) {
				l[j] = append(l[j], i)
			}
		}
	}
	return l
}

func (c account) doms() []uint64 {
	if len(c) > 64 {
		return nil
	}
	sets := make([]uint64, len(c))
	come := c.ways(-1)
	for m := range c {
		for n, other := range c.ways(m) {
			if come[n] && !other {
				sets[n] |= 1 << m
			}
		}
	}
	return sets
}

// told counts nodes: that are not come to, come to by 0 and themselves alone, and by others.
type told [3]int

func (n *told) count(sets []uint64) {
	for _, s := range sets {
		n[min(max(bits.Count(s)-1, 0), 2)]++
	}
}

// agrees holds the calls to the second account.
func agrees(t *testing.T, g graph, met *told) {
	t.Helper()
	c := account(g)
	if got, want := cfg.Preds(g), c.preds(); !same(got, want) {
		t.Fatalf("Preds of %v: %v, not %v", g, got, want)
	}
	if got, want := cfg.Reach(g), c.ways(-1); !slices.Equal(got, want) {
		t.Fatalf("Reach of %v: %v, not %v", g, got, want)
	}
	got, want := cfg.Doms(g), c.doms()
	if !slices.Equal(got, want) {
		t.Fatalf("Doms of %v: %b, not %b", g, got, want)
	}
	holds(t, g, got)
	met.count(got)
}

// holds asks what the chapter says of what dominates: that itself can not be come to without what it can not be come to without.
func holds(t *testing.T, g graph, sets []uint64) {
	t.Helper()
	come := cfg.Reach(g)
	for n, s := range sets {
		if come[n] != bits.Has(s, 0) || come[n] != bits.Has(s, n) || s&^bits.All(len(g)) != 0 {
			t.Fatalf("Doms of %v, of %d: %b", g, n, s)
		}
		for _, m := range bits.List(s) {
			if sets[m]&^s != 0 {
				t.Fatalf("Doms of %v: of %d %b, of %d %b", g, n, s, m, sets[m])
			}
		}
	}
}

// TestAllSmallGraphs goes through all graphs of up to four nodes.
func TestAllSmallGraphs(t *testing.T) {
	var met told
	for n := range 5 {
		for which := range 1 << (n * n) {
			g := make(graph, n)
			for i := range g {
				g[i] = bits.List(uint64(which) >> (i * n) & bits.All(n))
			}
			agrees(t, g, &met)
		}
	}
	if slices.Min(met[:]) < 10000 {
		t.Errorf("not all was met: %v", met)
	}
}

// sequence is a row of numbers that hangs on nothing but where it began.
type sequence uint64

// below is the next number, from 0 to n - 1.
func (s *sequence) below(n int) int {
	*s = *s*6364136223846793005 + 1442695040888963407
	return int(uint64(*s) >> 33 % uint64(n))
}

// node is a number that is one of so many nodes, or, now and then, none.
func (s *sequence) node(n int) int {
	switch s.below(12) {
	case 0:
		return odd[s.below(len(odd))]
	case 1:
		return n
	}
	return s.below(max(n, 1))
}

// graph has so many nodes at most, with few or many next ones, near or far, some of which are told twice, or none.
func (s *sequence) graph(most int) graph {
	g := make(graph, s.below(most+1))
	many, near := 1+s.below(4), s.below(2) == 0
	for i := range g {
		l := make([]int, s.below(many+1))
		for k := range l {
			l[k] = s.node(len(g))
			if near && l[k] > 0 {
				l[k] = i - 2 + l[k]%5
			}
		}
		g[i] = l
	}
	return g
}

func TestAgainstAccount(t *testing.T) {
	var met told
	s := sequence(10)
	for range 20000 {
		agrees(t, s.graph(12), &met)
	}
	for range 300 {
		agrees(t, s.graph(70), &met)
	}
	if slices.Min(met[:]) < 5000 {
		t.Errorf("not all was met: %v", met)
	}
}

// code is so many instructions at most, half of them such as lead elsewhere.
func (s *sequence) code(most int) []api.Ins {
	l := make([]api.Ins, s.below(most+1))
	for i := range l {
		in := api.Ins{Op: uint8(s.below(256)), A: s.node(len(l)), B: s.node(len(l)), C: s.node(len(l))}
		switch s.below(8) {
		case 0, 1:
			in.Op = api.Jump
		case 2, 3:
			in.Op = api.Zero
		}
		l[i] = in
	}
	return l
}

// goes are the places that may be next of what is at i, gathered as in a set.
func goes(code []api.Ins, i int) []int {
	var l []int
	if code[i].Op == api.Jump {
		l = append(l, code[i].A)
	} else {
		l = append(l, i+1)
	}
	if code[i].Op == api.Zero {
		l = append(l, code[i].B)
	}
	slices.Sort(l)
	return slices.Compact(l)
}

func TestSuccsAgainstAccount(t *testing.T) {
	var met [3]int
	s := sequence(100)
	for range 10000 {
		code := s.code(20)
		var want [][]int
		for i := range code {
			want = append(want, goes(code, i))
			met[len(want[i])]++
		}
		succs(t, code, want...)
	}
	if met[0] > 0 || slices.Min(met[1:]) < 5000 {
		t.Errorf("not all was met: %v", met)
	}
}

// TestGraphsOfCode takes code as long as a thread's may be, that is sound.
func TestGraphsOfCode(t *testing.T) {
	var met told
	s := sequence(1000)
	for range 1000 {
		code := make([]api.Ins, s.below(api.MaxCode+1))
		for i := range code {
			switch s.below(9) {
			case 0:
				code[i] = jump(s.below(len(code) + 1))
			case 1, 2:
				code[i] = zero(s.below(len(code) + 1))
			}
		}
		if e := ir.Sound(api.Program{Threads: [][]api.Ins{code}}); e != api.OK {
			t.Fatal(e)
		}
		agrees(t, cfg.Succs(code), &met)
	}
	if slices.Min(met[:]) < 1000 {
		t.Errorf("not all was met: %v", met)
	}
}

// roomy is a list in a longer memory, which has others ahead of it and behind it; the whole is handed out beside it.
func roomy[T any](list []T, others ...T) (in, whole []T) {
	whole = slices.Concat(others, list, others)
	return whole[len(others) : len(others)+len(list)], whole
}

// spoil writes over all that a list's memory holds.
func spoil[T any](l []T, with T) {
	l = l[:cap(l)]
	for i := range l {
		l[i] = with
	}
}

// spoilEach writes over lists one by one, and says whether those that are still to come stay as they were, and the memory of each behind its length is bare.
func spoilEach(l, was [][]int) bool {
	for i := range l {
		if !slices.Equal(l[i], was[i]) || slices.ContainsFunc(l[i][len(l[i]):cap(l[i])], func(n int) bool { return n != 0 }) {
			return false
		}
		spoil(l[i], -7)
	}
	for _, rest := range l[len(l):cap(l)] {
		if rest != nil {
			return false
		}
	}
	spoil(l, to(-7))
	return len(l) == len(was)
}

func TestMemoryOfGraphs(t *testing.T) {
	s := sequence(10000)
	for range 2000 {
		plain := s.graph(10)
		given, whole := roomy(slices.Clone(plain), to(0, 1, 2), to(5))
		var wholes, was [][]int
		for i := range given {
			in, all := roomy(plain[i], 0, 1, 2)
			given[i], wholes, was = in, append(wholes, all), append(was, slices.Clone(all))
		}
		for range 2 {
			// The second time shows whether the first's answers are still in use.
			d, r := cfg.Doms(given), cfg.Reach(given)
			if !slices.Equal(d, account(plain).doms()) || !slices.Equal(r, account(plain).ways(-1)) {
				t.Fatalf("Doms and Reach of %v: %b, %v", plain, d, r)
			}
			if !spoilEach(cfg.Preds(given), account(plain).preds()) {
				t.Fatalf("Preds of %v share memory, or hang on what was", plain)
			}
			spoil(d, math.MaxUint64)
			spoil(r, true)
		}
		ends := slices.Concat(whole[:2], whole[len(whole)-2:])
		if !same(wholes, was) || !same(given, plain) || !same(ends, graph{to(0, 1, 2), to(5), to(0, 1, 2), to(5)}) {
			t.Fatalf("%v was changed", plain)
		}
	}
}

func TestMemoryOfCode(t *testing.T) {
	s := sequence(20000)
	for range 2000 {
		code := s.code(10)
		given, whole := roomy(code, jump(0), zero(7))
		was := slices.Clone(whole)
		for range 2 {
			want := make([][]int, len(code))
			for i := range code {
				want[i] = goes(code, i)
			}
			if !spoilEach(cfg.Succs(given), want) {
				t.Fatalf("Succs of %v share memory, or hang on what was", code)
			}
		}
		if !slices.Equal(whole, was) {
			t.Fatalf("%v was changed", code)
		}
	}
}

// TestSharedLists hands in lists that are one and the same in memory.
func TestSharedLists(t *testing.T) {
	one := to(1, 2, 0)
	g := graph{one, one[:1], one[1:2], one}
	reach(t, g, 0, 1, 2)
	preds(t, g, to(0, 3), to(0, 1, 3), to(0, 2, 3), nil)
	doms(t, g, to(0), to(0, 1), to(0, 2), nil)
}

func TestLongRows(t *testing.T) {
	const n = 1000000
	begun := time.Now()
	for _, g := range []graph{chain(n), upward(n)} {
		if slices.Contains(cfg.Reach(g), false) {
			t.Error("Reach of a long row")
		}
		l := cfg.Preds(g)
		for _, i := range []int{1, 2, n / 2, n - 2} {
			if len(l[i]) != 1 || !slices.Contains(g[l[i][0]], i) {
				t.Errorf("Preds of %d in a long row: %v", i, l[i])
			}
		}
		g[n/2] = nil
		come := 0
		for _, at := range cfg.Reach(g) {
			if at {
				come++
			}
		}
		if come != n/2+1 {
			t.Errorf("Reach of a long row that is cut: %d", come)
		}
	}
	if l := cfg.Succs(make([]api.Ins, n)); !same(l, chain(n)) {
		t.Error("Succs of many instructions")
	}
	if took := time.Since(begun); took > 20*time.Second {
		t.Errorf("it took %v", took)
	}
}

// TestQuickly goes through graphs that take many rounds, and such as have many next ones.
func TestQuickly(t *testing.T) {
	begun := time.Now()
	back := upward(api.MaxNodes)
	for range 2000 {
		if s := cfg.Doms(back); s[1] != math.MaxUint64 {
			t.Fatalf("Doms of 1: %b", s[1])
		}
	}
	g := make(graph, 5000)
	for i := range g {
		g[i] = first(len(g))
	}
	if slices.Contains(cfg.Reach(g), false) {
		t.Error("Reach where all lead to all")
	}
	for i, l := range cfg.Preds(g) {
		if len(l) != len(g) || l[0] != 0 || l[i] != i {
			t.Fatalf("Preds where all lead to all, of %d: %d", i, len(l))
		}
	}
	g = graph{slices.Repeat(to(0, 1, 2, -1), 1000000), slices.Repeat(to(2), 1000000), nil}
	preds(t, g, to(0), to(0), to(0, 1))
	doms(t, g, to(0), to(0, 1), to(0, 2))
	if took := time.Since(begun); took > 20*time.Second {
		t.Errorf("it took %v", took)
	}
}

// No graph and no code makes a call panic.
func FuzzAnything(f *testing.F) {
	f.Add([]byte{3, 2, 1, 2, 1, 0, 0})
	f.Add([]byte{2, 255, 3, 128, 127, 1, 1, 1})
	f.Fuzz(func(t *testing.T, data []byte) {
		at := 0
		next := func() int {
			if at >= len(data) {
				return 0
			}
			at++
			return int(int8(data[at-1]))
		}
		g := make(graph, max(next(), 0)%68)
		for i := range g {
			for range next() & 3 {
				g[i] = append(g[i], next())
			}
		}
		var met told
		agrees(t, g, &met)
		var code []api.Ins
		var want [][]int
		for at < len(data) && len(code) < 40 {
			code = append(code, api.Ins{Op: uint8(next()), A: next(), B: next(), C: next()})
		}
		for i := range code {
			want = append(want, goes(code, i))
		}
		succs(t, code, want...)
	})
}
