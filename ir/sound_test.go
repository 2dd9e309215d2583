package ir_test

import (
	"math"
	"slices"
	"testing"

	"interlock/api"
	"interlock/ir"
)

// same says whether Sound answers what it must of a program.
func same(t *testing.T, what string, p api.Program, want api.Errno) {
	t.Helper()
	if got := ir.Sound(p); got != want {
		t.Errorf("%s: %d, not %d", what, got, want)
	}
}

// nops are n instructions, with some put over the first of them.
func nops(n int, put ...api.Ins) []api.Ins {
	code := make([]api.Ins, n)
	copy(code, put)
	return code
}

// one is a program of one thread, of what is put.
func one(put ...api.Ins) api.Program {
	return api.Program{Threads: [][]api.Ins{put}}
}

// most is a program of as much of everything as may be.
func most() api.Program {
	p := api.Program{
		Vars: api.MaxVars, Atoms: api.MaxAtoms, Locks: api.MaxLocks, Groups: api.MaxGroups, Onces: api.MaxOnces,
		Chans: []int{1, 2, 3, 3},
	}
	for range api.MaxThreads {
		p.Threads = append(p.Threads, nops(api.MaxCode))
	}
	return p
}

// Instructions that are wrong whatever the program is.
var (
	noIns   = api.Ins{Op: api.Ops}
	noThing = api.Ins{Op: api.Print, A: api.Regs}
)

func TestSoundOfLeastAndMost(t *testing.T) {
	same(t, "one thread of nothing (nil)", api.Program{Threads: [][]api.Ins{nil}}, api.OK)
	same(t, "one thread of nothing (empty)", api.Program{Chans: []int{}, Threads: [][]api.Ins{{}}}, api.OK)
	same(t, "six threads of nothing", api.Program{Threads: make([][]api.Ins, 6)}, api.OK)
	same(t, "as much as may be", most(), api.OK)
}

func TestSoundOfCounts(t *testing.T) {
	counts := []struct {
		name string
		most int
		put  func(p *api.Program, n int)
	}{
		{"Vars", 8, func(p *api.Program, n int) { p.Vars = n }},
		{"Atoms", 4, func(p *api.Program, n int) { p.Atoms = n }},
		{"Locks", 4, func(p *api.Program, n int) { p.Locks = n }},
		{"Groups", 4, func(p *api.Program, n int) { p.Groups = n }},
		{"Onces", 4, func(p *api.Program, n int) { p.Onces = n }},
	}
	for _, c := range counts {
		for _, begin := range []api.Program{one(), most()} {
			for n := -2; n <= 300; n++ { // 256 and about it: a count that is cut to a byte shows
				want := api.OK
				if n < 0 || n > c.most {
					want = api.ErrLong
				}
				p := begin
				c.put(&p, n)
				same(t, c.name, p, want)
			}
			for _, n := range []int{math.MinInt, math.MinInt + 4, -1 << 32, 1 << 32, 1<<32 + 1, math.MaxInt - 1, math.MaxInt} {
				p := begin
				c.put(&p, n)
				same(t, c.name, p, api.ErrLong)
			}
		}
	}
}

func TestSoundOfHowManyChans(t *testing.T) {
	for n := range 20 {
		want := api.OK
		if n > 4 {
			want = api.ErrLong
		}
		p := one()
		p.Chans = slices.Repeat([]int{1}, n)
		same(t, "Chans", p, want)
		p = most()
		p.Chans = slices.Repeat([]int{3}, n)
		same(t, "Chans", p, want)
	}
}

func TestSoundOfHowManyThreads(t *testing.T) {
	for n := range 20 {
		want := api.OK
		if n < 1 || n > 6 {
			want = api.ErrLong
		}
		same(t, "Threads", api.Program{Threads: make([][]api.Ins, n)}, want)
		p := most()
		p.Threads = slices.Repeat([][]api.Ins{nops(60)}, n)
		same(t, "Threads", p, want)
	}
	same(t, "no Threads", api.Program{}, api.ErrLong)
	same(t, "empty Threads", api.Program{Threads: [][]api.Ins{}}, api.ErrLong)
}

func TestSoundOfHowMuchCode(t *testing.T) {
	for k := range 6 {
		for _, n := range []int{0, 1, 59, 60, 61, 62, 255, 256, 257, 1000} {
			want := api.OK
			if n > 60 {
				want = api.ErrLong
			}
			p := api.Program{Threads: make([][]api.Ins, 6)}
			p.Threads[k] = nops(n)
			same(t, "code", p, want)
		}
	}
}

func TestSoundOfCapacities(t *testing.T) {
	holds := []int{math.MinInt, -1, 0, 1, 2, 3, 4, 5, 255, 256, 257, 259, 1 << 32, 1<<32 + 1, math.MaxInt}
	for k := range 4 {
		for _, n := range holds {
			want := api.OK
			if n < 1 || n > 3 {
				want = api.ErrThing
			}
			p := one()
			p.Chans = []int{1, 2, 3, 1}
			p.Chans[k] = n
			same(t, "Chans", p, want)
			p.Chans = p.Chans[:k+1]
			same(t, "Chans", p, want)
		}
	}
}

func TestSoundOfOps(t *testing.T) {
	for _, l := range lines(t) {
		p := most()
		p.Threads[3][7].Op = l.op
		if l.name == "go" {
			p.Threads[3][7].A = 1
		}
		same(t, l.name, p, api.OK)
	}
	above(func(op uint8) {
		same(t, "an Op above 27", one(api.Ins{Op: op}), api.ErrIns)
		p := most()
		p.Threads[5][59].Op = op
		same(t, "an Op above 27", p, api.ErrIns)
	})
}

// worlds are programs with unlike counts of things, so that one thing's count taken for another's shows.
func worlds() []api.Program {
	return []api.Program{
		{Threads: make([][]api.Ins, 1)},
		{Vars: 1, Atoms: 1, Locks: 1, Groups: 1, Onces: 1, Chans: []int{1}, Threads: make([][]api.Ins, 2)},
		{Vars: 8, Atoms: 0, Locks: 1, Groups: 2, Onces: 3, Chans: []int{1, 2, 3, 1}, Threads: make([][]api.Ins, 5)},
		{Vars: 7, Atoms: 1, Locks: 2, Groups: 3, Onces: 4, Threads: make([][]api.Ins, 6)},
		{Vars: 5, Atoms: 2, Locks: 3, Groups: 4, Onces: 0, Chans: []int{3}, Threads: make([][]api.Ins, 4)},
		{Vars: 6, Atoms: 3, Locks: 4, Groups: 0, Onces: 1, Chans: []int{2, 3}, Threads: make([][]api.Ins, 3)},
		{Vars: 2, Atoms: 4, Locks: 0, Groups: 1, Onces: 2, Chans: []int{3, 2, 1}, Threads: make([][]api.Ins, 6)},
		{Vars: 0, Atoms: 4, Locks: 4, Groups: 4, Onces: 4, Chans: []int{3, 3, 3, 3}, Threads: make([][]api.Ins, 6)},
	}
}

// ends are the least and the most that a number may be by its word, in a thread of so many instructions.
func ends(p api.Program, length int, word string) (int, int) {
	switch word {
	case "-":
		return 0, 0
	case "sets", "uses":
		return 0, 3
	case "number":
		return math.MinInt, math.MaxInt
	case "place":
		return 0, length
	case "thread":
		return 1, len(p.Threads) - 1
	case "variable":
		return 0, p.Vars - 1
	case "atom":
		return 0, p.Atoms - 1
	case "lock":
		return 0, p.Locks - 1
	case "channel":
		return 0, len(p.Chans) - 1
	case "group":
		return 0, p.Groups - 1
	case "once":
		return 0, p.Onces - 1
	}
	panic("no word: " + word)
}

// wanted is what Sound must answer of a world in which only this instruction can be wrong.
func wanted(p api.Program, length int, l line, n [3]int) api.Errno {
	e := api.OK
	for k, w := range l.words {
		least, last := ends(p, length, w)
		if n[k] >= least && n[k] <= last {
			continue
		}
		if w == "-" {
			return api.ErrIns
		}
		e = api.ErrThing
	}
	return e
}

// tries are numbers about every edge that a word has, below 0, and very great; 256 and about it, and 2^32, are 0 to 3 again when cut.
var tries = []int{
	math.MinInt, math.MinInt + 1, -1 << 32, -256, -4, -2, -1, 0, 1, 2, 3, 4, 5, 6, 7, 8, 9, 10,
	59, 60, 61, 62, 63, 64, 65, 255, 256, 257, 259, 1 << 32, 1<<32 + 1, math.MaxInt - 1, math.MaxInt,
}

// Each number of each instruction, the others as they may be (and so, where there is none of a thing, wrong).
func TestSoundOfEachNumber(t *testing.T) {
	for _, p := range worlds() {
		for _, l := range lines(t) {
			for k := range 3 {
				for _, try := range tries {
					n := [3]int{}
					if l.name == "go" {
						n[0] = 1
					}
					n[k] = try
					in(t, p, l, n)
				}
			}
		}
	}
}

// Two numbers at a time: what has no word is ErrIns, wherever it stands beside what is ErrThing.
func TestSoundOfTwoNumbers(t *testing.T) {
	few := []int{math.MinInt, -1, 0, 1, 3, 4, 6, 8, 9, math.MaxInt}
	for _, p := range worlds() {
		for _, l := range lines(t) {
			for _, a := range few {
				for _, b := range few {
					in(t, p, l, [3]int{a, b, 0})
					in(t, p, l, [3]int{a, 0, b})
					in(t, p, l, [3]int{1, a, b})
				}
			}
		}
	}
}

// in holds Sound against the table, with an instruction in the world's last thread, of a few lengths.
func in(t *testing.T, p api.Program, l line, n [3]int) {
	t.Helper()
	for _, length := range []int{1, 6, 60} {
		q := p
		q.Threads = slices.Clone(p.Threads)
		code := nops(length)
		code[length-1] = with(l.op, n)
		q.Threads[len(q.Threads)-1] = code
		if got, want := ir.Sound(q), wanted(q, length, l, n); got != want {
			t.Errorf("%s %v, as the last of %d, with Vars %d, Atoms %d, Locks %d, Groups %d, Onces %d, %d Chans, %d Threads: %d, not %d",
				l.name, n, length, q.Vars, q.Atoms, q.Locks, q.Groups, q.Onces, len(q.Chans), len(q.Threads), got, want)
		}
	}
}

func TestSoundOfNumbersThatMayBe(t *testing.T) {
	p := one()
	p.Groups = 1
	for _, n := range tries {
		p.Threads[0] = []api.Ins{{Op: api.Const, A: 3, B: n}, {Op: api.Grow, B: n}}
		same(t, "const and grow", p, api.OK)
	}
}

func TestSoundOfNumbersWithoutWord(t *testing.T) {
	for _, n := range tries {
		want := api.ErrIns
		if n == 0 {
			want = api.OK
		}
		same(t, "nop", one(api.Ins{A: n}), want)
		same(t, "nop", one(api.Ins{B: n}), want)
		same(t, "nop", one(api.Ins{C: n}), want)
		same(t, "const", one(api.Ins{Op: api.Const, B: 7, C: n}), want)
		same(t, "print", one(api.Ins{Op: api.Print, B: n}), want)
		same(t, "print", one(api.Ins{Op: api.Print, C: n}), want)
	}
}

// A place is one of its own thread, however long the others are.
func TestSoundOfPlacesOfTheThread(t *testing.T) {
	for at := range 61 {
		want := api.OK
		if at > 2 {
			want = api.ErrThing
		}
		p := api.Program{Threads: [][]api.Ins{nops(60), {{}, {Op: api.Jump, A: at}}, nops(60)}}
		same(t, "jump", p, want)
		p.Threads[1][1] = api.Ins{Op: api.Zero, B: at}
		same(t, "zero", p, want)
	}
	p := one(nops(60)...)
	for _, at := range []int{-1, 0, 59, 60, 61} {
		want := api.OK
		if at < 0 || at > 60 {
			want = api.ErrThing
		}
		p.Threads[0][59] = api.Ins{Op: api.Jump, A: at}
		same(t, "jump", p, want)
	}
}

func TestSoundOfGo(t *testing.T) {
	for n := 1; n <= 6; n++ {
		for a := -1; a <= 7; a++ {
			want := api.ErrThing
			if a >= 1 && a < n {
				want = api.OK
			}
			p := api.Program{Threads: make([][]api.Ins, n)}
			for k := range n { // whoever says it, of itself too
				p.Threads = make([][]api.Ins, n)
				p.Threads[k] = []api.Ins{{Op: api.Go, A: a}}
				same(t, "go", p, want)
			}
		}
	}
}

// ErrLong is named first, then the Chans, then what is in the code.
func TestSoundNamesTheFirst(t *testing.T) {
	worse := []func(p *api.Program){
		func(p *api.Program) { p.Vars = 9 },
		func(p *api.Program) { p.Vars = -1 },
		func(p *api.Program) { p.Atoms = 5 },
		func(p *api.Program) { p.Locks = -1 },
		func(p *api.Program) { p.Groups = 5 },
		func(p *api.Program) { p.Onces = -1 },
		func(p *api.Program) { p.Chans = []int{0, 1, 1, 1, 1} },
		func(p *api.Program) { p.Threads = append(p.Threads, make([][]api.Ins, 5)...) },
		func(p *api.Program) { p.Threads[1] = nops(61) },
	}
	for _, ins := range []api.Ins{{}, noIns, noThing} {
		for _, worsen := range worse {
			p := api.Program{Chans: []int{4}, Threads: [][]api.Ins{{ins}, nil}}
			same(t, "Chans ahead of code", p, api.ErrThing)
			worsen(&p)
			same(t, "ErrLong ahead of Chans and code", p, api.ErrLong)
		}
	}
	same(t, "no threads ahead of Chans", api.Program{Chans: []int{4}}, api.ErrLong)
}

func TestSoundGoesInstructionByInstruction(t *testing.T) {
	same(t, "ErrIns, then ErrThing", one(noIns, noThing), api.ErrIns)
	same(t, "ErrThing, then ErrIns", one(noThing, noIns), api.ErrThing)
	same(t, "both in the last", one(nops(60, noThing)...), api.ErrThing)
	same(t, "both in one instruction", one(api.Ins{Op: api.Print, A: 4, B: 1}), api.ErrIns)
	same(t, "both in one instruction", one(api.Ins{Op: api.Go, A: 0, C: 1}), api.ErrIns)
	same(t, "both in one instruction", one(api.Ins{Op: 28, A: -1}), api.ErrIns)
	for _, l := range [][2]api.Ins{{noIns, noThing}, {noThing, noIns}} {
		want := api.ErrIns
		if l[0] == noThing {
			want = api.ErrThing
		}
		p := api.Program{Threads: [][]api.Ins{nops(60), nil, nops(3, api.Ins{}, api.Ins{}, l[0]), nops(1, l[1])}}
		same(t, "an earlier thread's later instruction", p, want)
	}
}

// What lies behind a list's length is not read, and what is handed in is not changed.
func TestSoundLeavesWhatIsHandedIn(t *testing.T) {
	code := []api.Ins{{Op: api.Jump, A: 1}, noIns, noThing}
	threads := [][]api.Ins{code[:1], nops(61), {noIns}}
	chans := []int{3, 0, 9}
	p := api.Program{Chans: chans[:1], Threads: threads[:1]}
	same(t, "what lies behind", p, api.OK)
	if !slices.Equal(chans, []int{3, 0, 9}) || len(threads[1]) != 61 || len(threads[2]) != 1 {
		t.Error("Chans or Threads were changed")
	}
	if !slices.Equal(code, []api.Ins{{Op: api.Jump, A: 1}, noIns, noThing}) {
		t.Error("code was changed")
	}
	p.Threads = [][]api.Ins{code[:2]}
	same(t, "changed in between", p, api.ErrIns)
	code[1] = api.Ins{}
	same(t, "changed back", p, api.OK)
}

// Any numbers at all: each call ends, and answers one of the chapter's errors.
func TestSoundOfAnything(t *testing.T) {
	seen := map[api.Errno]int{}
	next := uint64(1)
	draw := func(n int) int { // a fixed row of numbers without a pattern
		next = next*6364136223846793005 + 1442695040888963407
		return int(next>>33) % n
	}
	tried := func() int { return tries[draw(len(tries))] }
	for range 20000 {
		p := api.Program{Vars: draw(11) - 1, Atoms: draw(7) - 1, Locks: draw(6), Groups: draw(5), Onces: draw(5)}
		for range draw(6) {
			p.Chans = append(p.Chans, 1+draw(4))
		}
		for range draw(8) {
			var code []api.Ins
			for range draw(6) {
				code = append(code, api.Ins{Op: uint8(draw(30)), A: draw(4), B: draw(3), C: draw(2)})
				if draw(8) == 0 {
					code[draw(len(code))] = api.Ins{Op: uint8(draw(256)), A: tried(), B: tried(), C: tried()}
				}
			}
			p.Threads = append(p.Threads, code)
		}
		e := ir.Sound(p)
		seen[e]++
		if want := plainly(t, p); e != want {
			t.Fatalf("%v: %d, not %d", p, e, want)
		}
	}
	for _, e := range []api.Errno{api.OK, api.ErrLong, api.ErrIns, api.ErrThing} {
		if seen[e] == 0 {
			t.Errorf("no program of them is %d", e)
		}
	}
}

// plainly is Sound, written down as the chapter says it.
func plainly(t *testing.T, p api.Program) api.Errno {
	t.Helper()
	if p.Vars < 0 || p.Vars > 8 || len(p.Chans) > 4 || len(p.Threads) < 1 || len(p.Threads) > 6 {
		return api.ErrLong
	}
	for _, n := range []int{p.Atoms, p.Locks, p.Groups, p.Onces} {
		if n < 0 || n > 4 {
			return api.ErrLong
		}
	}
	for _, code := range p.Threads {
		if len(code) > 60 {
			return api.ErrLong
		}
	}
	for _, n := range p.Chans {
		if n < 1 || n > 3 {
			return api.ErrThing
		}
	}
	rows := lines(t)
	for _, code := range p.Threads {
		for _, i := range code {
			if i.Op > 27 {
				return api.ErrIns
			}
			if e := wanted(p, len(code), rows[i.Op], [3]int{i.A, i.B, i.C}); e != api.OK {
				return e
			}
		}
	}
	return api.OK
}
