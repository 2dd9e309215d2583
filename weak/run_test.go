package weak_test

import (
	"math"
	"slices"
	"testing"

	"interlock/api"
	"interlock/play"
	"interlock/weak"
)

// at is an instruction with its numbers.
func at(op uint8, abc ...int) api.Ins {
	i := api.Ins{Op: op}
	for k, to := range []*int{&i.A, &i.B, &i.C}[:len(abc)] {
		*to = abc[k]
	}
	return i
}

// many is a program of such threads, with all that there may be of everything.
func many(threads ...[]api.Ins) api.Program {
	return api.Program{Vars: 8, Atoms: 4, Locks: 4, Chans: []int{1, 2, 3, 1}, Groups: 4, Onces: 4, Threads: threads}
}

// example is a program in which thread 1 stores 5, then 6, and thread 0 tells what it loads.
func example() api.Program {
	return many(
		[]api.Ins{at(api.Go, 1), at(api.Load, 2, 1), at(api.Print, 2), at(api.Load, 3, 1), at(api.Print, 3)},
		[]api.Ins{at(api.Const, 0, 5), at(api.Store, 1, 0), at(api.Const, 0, 6), at(api.Store, 1, 0)},
	)
}

// endless is a program that can always go on.
func endless() api.Program {
	return many([]api.Ins{at(api.Load, 0, 0), at(api.Print, 0), at(api.Jump, 0)})
}

// wrong are programs that may not be, by each error of layer 2.
func wrong() []api.Program {
	code := func(i ...api.Ins) [][]api.Ins { return [][]api.Ins{i} }
	return []api.Program{
		{},
		{Threads: [][]api.Ins{}},
		{Threads: make([][]api.Ins, api.MaxThreads+1)},
		{Threads: code(make([]api.Ins, api.MaxCode+1)...)},
		{Vars: -1, Threads: code()},
		{Vars: math.MaxInt, Threads: code()},
		{Onces: math.MinInt, Threads: code()},
		{Chans: []int{1, 1, 1, 1, 1}, Threads: code()},
		{Chans: []int{0}, Threads: code()},
		{Threads: code(at(api.Ops))},
		{Threads: code(at(255))},
		{Threads: code(at(api.Nop, 0, 0, 1))},
		{Threads: code(at(api.Print, api.Regs))},
		{Threads: code(at(api.Load, 0, 0))},
		{Vars: 1, Threads: code(at(api.Load, 0, 1))},
		{Vars: 1, Threads: code(at(api.Load, -1, 0))},
		{Threads: code(at(api.Jump, -1))},
		{Threads: code(at(api.Go, 1))},
	}
}

// by are choices of threads, each with nothing to go back.
func by(threads ...int) []api.Choice {
	l := make([]api.Choice, len(threads))
	for n, k := range threads {
		l[n].Thread = k
	}
	return l
}

// times are so many choices that are alike.
func times(n int, c api.Choice) []api.Choice { return slices.Repeat([]api.Choice{c}, n) }

// threads are the picks of choices.
func threads(l []api.Choice) []int {
	script := make([]int, len(l))
	for n, c := range l {
		script[n] = c.Thread
	}
	return script
}

// same says whether two results tell the same; a list that is nil is one that is empty.
func same(a, b api.Result) bool {
	return slices.Equal(a.Prints, b.Prints) && a.Status == b.Status && slices.Equal(a.Picks, b.Picks) && slices.Equal(a.Trace, b.Trace)
}

// runs is the result of choices that may be.
func runs(t *testing.T, p api.Program, l ...api.Choice) api.Result {
	t.Helper()
	r, e := weak.Run(p, l)
	if e != api.OK {
		t.Fatalf("Run of %v by %v: error %d", p, l, e)
	}
	return r
}

// plays is what a script tells where nothing is weak.
func plays(t *testing.T, p api.Program, script ...int) api.Result {
	t.Helper()
	r, e := play.Run(p, script)
	if e != api.OK {
		t.Fatalf("play.Run of %v by %v: error %d", p, script, e)
	}
	return r
}

// tells holds a result to what it must be.
func tells(t *testing.T, got, want api.Result) {
	t.Helper()
	if !same(got, want) {
		t.Errorf("%v, not %v", got, want)
	}
}

// prints holds what is told by choices to what must be.
func prints(t *testing.T, p api.Program, l []api.Choice, want ...int) {
	t.Helper()
	if got := runs(t, p, l...).Prints; !slices.Equal(got, want) {
		t.Errorf("by %v: told %v, not %v", l, got, want)
	}
}

// refuses holds Run to an error, beside which nothing is told.
func refuses(t *testing.T, p api.Program, l []api.Choice, want api.Errno) {
	t.Helper()
	r, e := weak.Run(p, l)
	if e != want {
		t.Errorf("error %d, not %d", e, want)
	}
	if len(r.Prints) != 0 || r.Status != 0 || len(r.Picks) != 0 || len(r.Trace) != 0 {
		t.Errorf("error %d, and yet %d told, status %d, %d picks, %d events", e, len(r.Prints), r.Status, len(r.Picks), len(r.Trace))
	}
}

func TestRunOfWhatMayNotBe(t *testing.T) {
	for _, p := range wrong() {
		for _, n := range []int{0, 1, api.MaxScript, api.MaxScript + 1} {
			// Where there are too many choices besides, the program is asked first.
			refuses(t, p, times(n, api.Choice{}), api.ErrArg)
		}
		refuses(t, p, nil, api.ErrArg)
	}
}

func TestRunOfTooManyChoices(t *testing.T) {
	for _, n := range []int{api.MaxScript + 1, api.MaxScript + 2, 100000} {
		// They are too many whether they would be steps or not.
		for _, c := range []api.Choice{{}, {Thread: -1}, {Thread: 9, Back: 9}} {
			refuses(t, endless(), times(n, c), api.ErrLong)
		}
	}
}

func TestRunOfAllChoicesThatThereMayBe(t *testing.T) {
	const all = api.MaxScript
	for _, back := range []int{0, 1, math.MaxInt} {
		r := runs(t, endless(), times(all, api.Choice{Back: back})...)
		if len(r.Picks) != all || len(r.Trace) != all || len(r.Prints) != all/3+1 || r.Status != api.Cut {
			t.Errorf("%d picks, %d events, %d told, status %d", len(r.Picks), len(r.Trace), len(r.Prints), r.Status)
		}
	}
	tells(t, runs(t, endless(), times(all, api.Choice{Thread: 7})...), api.Result{Status: api.Cut})
	// The last of all counts too.
	last := append(times(all-1, api.Choice{Thread: 7}), api.Choice{})
	tells(t, runs(t, endless(), last...), api.Result{Status: api.Cut, Picks: []int{0}, Trace: []api.Event{{Op: api.Load}}})
}

func TestRunByNothing(t *testing.T) {
	tells(t, runs(t, example()), api.Result{Status: api.Cut})
	r, e := weak.Run(example(), []api.Choice{})
	if e != api.OK {
		t.Errorf("error %d", e)
	}
	tells(t, r, api.Result{Status: api.Cut})
	tells(t, runs(t, many(nil, []api.Ins{{}})), api.Result{Status: api.Done})
	tells(t, runs(t, many(nil), api.Choice{}, api.Choice{Back: 5}), api.Result{Status: api.Done})
}

// All that is in a result, by a load that reads one that is not the last.
func TestRun(t *testing.T) {
	l := append(by(0, 1, 1, 1, 1), api.Choice{Back: 1}, api.Choice{}, api.Choice{Back: 2}, api.Choice{})
	tells(t, runs(t, example(), l...), api.Result{
		Prints: []int{5, 0},
		Status: api.Done,
		Picks:  []int{0, 1, 1, 1, 1, 0, 0, 0, 0},
		Trace: []api.Event{
			{Op: api.Go, Obj: 1},
			{Thread: 1, Op: api.Const},
			{Thread: 1, Pc: 1, Op: api.Store, Obj: 1, Value: 5},
			{Thread: 1, Pc: 2, Op: api.Const},
			{Thread: 1, Pc: 3, Op: api.Store, Obj: 1, Value: 6},
			{Pc: 1, Op: api.Load, Obj: 1, Value: 5},
			{Pc: 2, Op: api.Print, Value: 5},
			{Pc: 3, Op: api.Load, Obj: 1},
			{Pc: 4, Op: api.Print},
		},
	})
}

// readsBack holds what thread 0 of the example tells, loading so far back once the other thread has stored both.
func readsBack(t *testing.T, first, second int, want ...int) {
	t.Helper()
	l := append(by(0, 1, 1, 1, 1), api.Choice{Back: first}, api.Choice{Back: 77}, api.Choice{Back: second}, api.Choice{Back: -77})
	prints(t, example(), l, want...)
}

func TestBack(t *testing.T) {
	// What is told of 6, 5 and the beginning, by how far back, round.
	told := []int{6, 5, 0}
	for back := range 12 {
		readsBack(t, back, 0, told[back%3], 6)
		readsBack(t, 0, back, 6, told[back%3])
		// What was read ahead of it is nothing to a load: an older number may come behind a younger one.
		readsBack(t, back, 11-back, told[back%3], told[(11-back)%3])
	}
	for _, back := range []int{-1, -2, -3, -4, math.MinInt, math.MinInt + 1} {
		readsBack(t, back, back, 6, 6)
	}
	readsBack(t, math.MaxInt, math.MaxInt-1, told[math.MaxInt%3], told[(math.MaxInt-1)%3])
}

// How many there are to go back to hangs on what is there already.
func TestBackIsOfTheTraceSoFar(t *testing.T) {
	back := api.Choice{Back: 1}
	p := example()
	// Behind none of the stores, the first, both.
	prints(t, p, []api.Choice{{}, back, {}}, 0)
	prints(t, p, append(by(0, 1, 1), back, api.Choice{}), 0)
	prints(t, p, append(by(0, 1, 1), api.Choice{Back: 2}, api.Choice{}), 5)
	prints(t, p, append(by(0, 1, 1, 1), back, api.Choice{}), 0)
	prints(t, p, append(by(0, 1, 1, 1, 1), back, api.Choice{}), 5)
	// What is stored behind the load is nothing to it.
	prints(t, p, append(by(0, 1, 1), append([]api.Choice{back}, by(1, 1, 0)...)...), 0)
}

// A load that reads the beginning reads 0, though the variable is another number already.
func TestReadsTheBeginning(t *testing.T) {
	l := append(by(0, 1, 1), api.Choice{Back: 1}, api.Choice{})
	r := runs(t, example(), l...)
	if e := r.Trace[3]; e != (api.Event{Pc: 1, Op: api.Load, Obj: 1}) || !slices.Equal(r.Prints, []int{0}) {
		t.Errorf("%v, told %v", e, r.Prints)
	}
	// The register was another number ahead of it.
	p := many(
		[]api.Ins{at(api.Const, 2, 9), at(api.Go, 1), at(api.Load, 2, 1), at(api.Print, 2)},
		[]api.Ins{at(api.Const, 0, 5), at(api.Store, 1, 0)},
	)
	prints(t, p, append(by(0, 0, 1, 1), api.Choice{Back: 1}, api.Choice{}), 0)
	prints(t, p, append(by(0, 0, 1, 1), api.Choice{Back: 0}, api.Choice{}), 5)
}

// Each register, and each variable, is the load's own; all others stay what they were.
func TestTheRegisterOfALoad(t *testing.T) {
	for a := range api.Regs {
		for x := range api.MaxVars {
			code := []api.Ins{at(api.Go, 1)}
			for r := range api.Regs {
				code = append(code, at(api.Const, r, 40+r))
			}
			code = append(code, at(api.Load, a, x))
			for r := range api.Regs {
				code = append(code, at(api.Print, r))
			}
			other := []api.Ins{at(api.Const, 3, 7), at(api.Store, x, 3), at(api.Const, 3, 8), at(api.Store, x, 3), at(api.Print, 0), at(api.Print, 1), at(api.Print, 2), at(api.Print, 3)}
			for back, read := range []int{8, 7, 0} {
				l := by(0, 1, 1, 1, 1, 0, 0, 0, 0, 0, 0, 0, 0, 0, 1, 1, 1, 1)
				l[9].Back = back
				want := []int{40, 41, 42, 43, 0, 0, 0, 8}
				want[a] = read
				prints(t, many(code, other), l, want...)
			}
		}
	}
}

// What was read is what goes on: it is moved, reckoned with, stored, sent, and asked.
func TestWhatWasReadGoesOn(t *testing.T) {
	main := func(code ...api.Ins) api.Program {
		return many(append([]api.Ins{at(api.Go, 1), at(api.Load, 0, 0)}, code...), []api.Ins{at(api.Const, 0, 4), at(api.Store, 0, 0), at(api.Const, 0, 3), at(api.Store, 0, 0)})
	}
	for _, c := range []struct {
		name string
		p    api.Program
		want [3]int
	}{
		{"move", main(at(api.Move, 1, 0), at(api.Print, 1)), [3]int{3, 4, 0}},
		{"mul", main(at(api.Mul, 1, 0, 0), at(api.Print, 1)), [3]int{9, 16, 0}},
		{"store", main(at(api.Store, 1, 0), at(api.Load, 1, 1), at(api.Print, 1)), [3]int{3, 4, 0}},
		{"store of the same", main(at(api.Store, 0, 0), at(api.Load, 1, 0), at(api.Print, 1)), [3]int{3, 4, 0}},
		{"write", main(at(api.Write, 1, 0), at(api.Read, 1, 1), at(api.Print, 1)), [3]int{3, 4, 0}},
		{"send", main(at(api.Send, 1, 0), at(api.Recv, 1, 1), at(api.Print, 1)), [3]int{3, 4, 0}},
		{"zero", main(at(api.Zero, 0, 4), at(api.Const, 1, 1), at(api.Print, 1)), [3]int{1, 1, 0}},
	} {
		t.Run(c.name, func(t *testing.T) {
			for back, want := range c.want {
				l := by(0, 1, 1, 1, 1, 0, 0, 0, 0)
				l[5].Back = back
				r := runs(t, c.p, l...)
				if e := r.Trace[5]; e.Value != []int{3, 4, 0}[back] || !slices.Equal(r.Prints, []int{want}) {
					t.Errorf("%d back: %v, told %v, not %d", back, e, r.Prints, want)
				}
			}
		})
	}
}

// What is stored is what the variable is for all: a load that goes back does not change it, and the next store is the next to be read.
func TestStoresAreAsTheyAre(t *testing.T) {
	p := many(
		[]api.Ins{at(api.Go, 1), at(api.Go, 2), at(api.Load, 0, 0), at(api.Store, 0, 0), at(api.Print, 0)},
		[]api.Ins{at(api.Const, 0, 5), at(api.Store, 0, 0)},
		[]api.Ins{at(api.Load, 0, 0), at(api.Print, 0), at(api.Load, 0, 0), at(api.Print, 0)},
	)
	l := by(0, 0, 1, 1, 2, 2, 0, 0, 2, 2, 0)
	l[4].Back, l[6].Back = 1, 1
	r := runs(t, p, l...)
	if !slices.Equal(r.Prints, []int{0, 0, 0}) {
		t.Errorf("told %v", r.Prints)
	}
	if e := r.Trace[7]; e != (api.Event{Pc: 3, Op: api.Store}) {
		t.Errorf("the store of what was read: %v", e)
	}
	l[4].Back, l[8].Back = 0, 1
	prints(t, p, l, 5, 5, 0)
	l[8].Back = 2
	prints(t, p, l, 5, 0, 0)
}

// A Read is no Load: atoms are never weak, nor is anything else; how far back is nothing to them.
func TestOnlyLoadsGoBack(t *testing.T) {
	p := many(
		[]api.Ins{at(api.Go, 1), at(api.Read, 0, 0), at(api.Print, 0), at(api.Bump, 0, 0, 0), at(api.Print, 0), at(api.Recv, 0, 2), at(api.Print, 0), at(api.Begin, 0, 0), at(api.Print, 0)},
		[]api.Ins{at(api.Const, 0, 5), at(api.Write, 0, 0), at(api.Store, 0, 0), at(api.Const, 0, 6), at(api.Write, 0, 0), at(api.Send, 2, 0), at(api.Store, 0, 0), at(api.Send, 2, 0)},
	)
	script := []int{0, 1, 1, 1, 1, 1, 1, 1, 1, 0, 0, 0, 0, 0, 0, 0, 0}
	want := plays(t, p, script...)
	if !slices.Equal(want.Prints, []int{6, 6, 6, 1}) || want.Status != api.Done {
		t.Fatalf("%v", want)
	}
	for _, back := range []int{-1, 0, 1, 2, 3, math.MaxInt} {
		l := by(script...)
		for n := range l {
			l[n].Back = back
		}
		tells(t, runs(t, p, l...), want)
	}
}

// A pick that is no step is none, how far back it may be; its Back is not the next one's.
func TestPicksThatAreNone(t *testing.T) {
	p := example()
	steps := append(by(0, 1, 1, 1, 1), api.Choice{Back: 1}, api.Choice{}, api.Choice{Back: 2}, api.Choice{})
	want := runs(t, p, steps...)
	for _, k := range []int{-1, -2, 2, 3, api.MaxThreads, api.MaxThreads + 1, 63, 64, -64, math.MinInt, math.MaxInt} {
		var l []api.Choice
		for n, c := range steps {
			l = append(l, api.Choice{Thread: k, Back: n}, c, api.Choice{Thread: k, Back: -n})
		}
		tells(t, runs(t, p, l...), want)
		tells(t, runs(t, p, api.Choice{Thread: k}), api.Result{Status: api.Cut})
	}
	// One that has not begun, and one that has ended.
	l := append(by(1, 0, 1, 1, 1, 1, 1, 1), steps[5:]...)
	tells(t, runs(t, p, append(l, by(0, 1, 0)...)...), want)
}

// A thread that is blocked makes no step, till another has let it go on; then it knows what that one did.
func TestPicksOfThreadsThatAreBlocked(t *testing.T) {
	for _, c := range []struct {
		name  string
		ahead []api.Ins // what thread 0 does ahead of Go
		waits api.Ins
		frees api.Ins
	}{
		{"lock", []api.Ins{at(api.Lock)}, at(api.Lock), at(api.Unlock)},
		{"lock of readers", []api.Ins{at(api.RLock)}, at(api.Lock), at(api.RUnlock)},
		{"rlock", []api.Ins{at(api.Lock)}, at(api.RLock), at(api.Unlock)},
		{"send", []api.Ins{at(api.Send)}, at(api.Send), at(api.Recv, 3, 0)},
		{"recv", nil, at(api.Recv, 3, 0), at(api.Send)},
		{"recv of what is closed", nil, at(api.Recv, 3, 0), at(api.Close)},
		{"wait", []api.Ins{at(api.Grow, 0, 1)}, at(api.Wait), at(api.Grow, 0, -1)},
		{"begin", []api.Ins{at(api.Begin, 3, 0)}, at(api.Begin, 3, 0), at(api.End)},
	} {
		t.Run(c.name, func(t *testing.T) {
			main := slices.Concat(c.ahead, []api.Ins{at(api.Go, 1), at(api.Const, 0, 5), at(api.Store, 0, 0), c.frees})
			p := many(main, []api.Ins{c.waits, at(api.Load, 0, 0), at(api.Print, 0)})
			all := by(slices.Repeat([]int{0}, len(main))...)
			blocked := slices.Insert(slices.Clone(all), len(all)-1, times(4, api.Choice{Thread: 1, Back: 1})...)
			tells(t, runs(t, p, blocked...), runs(t, p, all...))
			free := append(blocked, times(3, api.Choice{Thread: 1, Back: 1})...)
			r := runs(t, p, free...)
			if r.Status != api.Done || !slices.Equal(r.Prints, []int{5}) {
				t.Errorf("free: %v", r)
			}
			tells(t, r, plays(t, p, threads(free)...))
		})
	}
}

func TestPicksBehindATrap(t *testing.T) {
	p := many([]api.Ins{at(api.Load, 1, 0), at(api.Unlock, 2), at(api.Load, 1, 0)})
	want := api.Result{Status: api.Trap, Picks: []int{0, 0}, Trace: []api.Event{{Op: api.Load}, {Pc: 1, Op: api.Unlock, Obj: 2}}}
	tells(t, runs(t, p, by(0, 0)...), want)
	tells(t, runs(t, p, times(9, api.Choice{Back: 3})...), want)
}

// Each status is that of the end, by what was read on the way.
func TestStatus(t *testing.T) {
	// It traps, if it reads 5; it is stuck for good, if it reads 0.
	p := many(
		[]api.Ins{at(api.Go, 1), at(api.Load, 0, 0), at(api.Zero, 0, 4), at(api.End, 0), at(api.Recv, 0, 0)},
		[]api.Ins{at(api.Const, 0, 5), at(api.Store, 0, 0)},
	)
	for _, c := range []struct {
		back   int
		steps  int
		status uint8
	}{{0, 0, api.Cut}, {0, 3, api.Cut}, {0, 4, api.Cut}, {0, 5, api.Cut}, {0, 6, api.Trap}, {1, 4, api.Cut}, {1, 5, api.Stuck}, {1, 6, api.Stuck}} {
		l := by(0, 1, 1, 0, 0, 0)
		l[3].Back = c.back
		if r := runs(t, p, l[:c.steps]...); r.Status != c.status {
			t.Errorf("%d back, %d steps: status %d, not %d", c.back, c.steps, r.Status, c.status)
		}
	}
	if r := runs(t, example(), by(0, 0, 0, 0, 0, 1, 1, 1, 1)...); r.Status != api.Done {
		t.Errorf("the end: status %d", r.Status)
	}
}

// Numbers that grow are taken modulo 2^64, and a load reads them so.
func TestNumbersWrapRound(t *testing.T) {
	p := many(
		[]api.Ins{at(api.Go, 1), at(api.Load, 0, 7), at(api.Print, 0)},
		[]api.Ins{at(api.Const, 0, math.MaxInt), at(api.Store, 7, 0), at(api.Add, 0, 0, 0), at(api.Store, 7, 0), at(api.Const, 0, math.MinInt), at(api.Store, 7, 0)},
	)
	for back, want := range []int{math.MinInt, -2, math.MaxInt, 0} {
		l := append(by(0, 1, 1, 1, 1, 1, 1), api.Choice{Back: back}, api.Choice{})
		prints(t, p, l, want)
	}
}
