package play_test

import (
	"math"
	"slices"
	"testing"

	"interlock/api"
	"interlock/play"
)

// many is a program of such threads, with all that there may be of everything.
func many(threads ...[]api.Ins) api.Program {
	return api.Program{Vars: 8, Atoms: 4, Locks: 4, Chans: []int{1, 2, 3, 1}, Groups: 4, Onces: 4, Threads: threads}
}

// example is the chapter's program.
func example() api.Program {
	return api.Program{Threads: [][]api.Ins{
		{{Op: api.Go, A: 1}, {Op: api.Print, A: 0}},
		{{Op: api.Const, A: 0, B: 5}, {Op: api.Print, A: 0}},
	}}
}

// endless is a program that can always go on.
func endless() api.Program {
	return many([]api.Ins{{Op: api.Go, A: 1}, {Op: api.Jump, A: 1}}, []api.Ins{{Op: api.Print, A: 0}, {Op: api.Jump, A: 0}})
}

// wrong are programs that may not be, by each error of layer 2.
func wrong() []api.Program {
	code := func(i ...api.Ins) [][]api.Ins { return [][]api.Ins{i} }
	return []api.Program{
		{},
		{Threads: [][]api.Ins{}},
		{Threads: make([][]api.Ins, api.MaxThreads+1)},
		{Threads: code(make([]api.Ins, api.MaxCode+1)...)},
		{Vars: -1, Threads: code()},
		{Vars: math.MaxInt, Threads: code()},
		{Onces: math.MinInt, Threads: code()},
		{Chans: []int{1, 1, 1, 1, 1}, Threads: code()},
		{Chans: []int{0}, Threads: code()},
		{Threads: code(api.Ins{Op: api.Ops})},
		{Threads: code(api.Ins{Op: 255})},
		{Threads: code(api.Ins{Op: api.Nop, C: 1})},
		{Threads: code(api.Ins{Op: api.Print, A: api.Regs})},
		{Threads: code(api.Ins{Op: api.Load})},
		{Threads: code(api.Ins{Op: api.Jump, A: -1})},
		{Threads: code(api.Ins{Op: api.Go, A: 1})},
	}
}

// times is a script of one thread's picks, with no room behind it that two longer ones could share.
func times(n, k int) []int { return slices.Clip(slices.Repeat([]int{k}, n)) }

// same says whether two results tell the same; a list that is nil is one that is empty.
func same(a, b api.Result) bool {
	return slices.Equal(a.Prints, b.Prints) && a.Status == b.Status && slices.Equal(a.Picks, b.Picks) && slices.Equal(a.Trace, b.Trace)
}

// runs is the result of a script that may be.
func runs(t *testing.T, p api.Program, script ...int) api.Result {
	t.Helper()
	r, e := play.Run(p, script)
	if e != api.OK {
		t.Fatalf("Run of %v by %v: error %d", p, script, e)
	}
	return r
}

// rounds is the result of so many turns, which may be.
func rounds(t *testing.T, p api.Program, most int) api.Result {
	t.Helper()
	r, e := play.Round(p, most)
	if e != api.OK {
		t.Fatalf("Round of %v with %d: error %d", p, most, e)
	}
	return r
}

// tells holds a result to what it must be.
func tells(t *testing.T, got, want api.Result) {
	t.Helper()
	if !same(got, want) {
		t.Errorf("%v, not %v", got, want)
	}
}

// refuses holds a call to an error, beside which nothing is told.
func refuses(t *testing.T, r api.Result, e, want api.Errno) {
	t.Helper()
	if e != want {
		t.Errorf("error %d, not %d", e, want)
	}
	if len(r.Prints) != 0 || r.Status != 0 || len(r.Picks) != 0 || len(r.Trace) != 0 {
		t.Errorf("error %d, and yet %d told, status %d, %d picks, %d events", e, len(r.Prints), r.Status, len(r.Picks), len(r.Trace))
	}
}

func TestExample(t *testing.T) {
	tells(t, runs(t, example(), 0, 1, 1, 0), api.Result{
		Prints: []int{5, 0},
		Status: api.Done,
		Picks:  []int{0, 1, 1, 0},
		Trace: []api.Event{
			{Thread: 0, Pc: 0, Op: api.Go, Obj: 1},
			{Thread: 1, Pc: 0, Op: api.Const},
			{Thread: 1, Pc: 1, Op: api.Print, Value: 5},
			{Thread: 0, Pc: 1, Op: api.Print},
		},
	})
}

// What is told is told in the order of the picks.
func TestOrderOfPicks(t *testing.T) {
	tells(t, runs(t, example(), 0, 0, 1, 1), api.Result{
		Prints: []int{0, 5},
		Status: api.Done,
		Picks:  []int{0, 0, 1, 1},
		Trace: []api.Event{
			{Thread: 0, Pc: 0, Op: api.Go, Obj: 1},
			{Thread: 0, Pc: 1, Op: api.Print},
			{Thread: 1, Pc: 0, Op: api.Const},
			{Thread: 1, Pc: 1, Op: api.Print, Value: 5},
		},
	})
}

func TestRunOfWhatMayNotBe(t *testing.T) {
	for _, p := range wrong() {
		for _, script := range [][]int{nil, {}, {0}, times(api.MaxScript, 0)} {
			r, e := play.Run(p, script)
			refuses(t, r, e, api.ErrArg)
		}
	}
}

func TestRunOfLongScripts(t *testing.T) {
	for _, n := range []int{api.MaxScript + 1, api.MaxScript + 2, 100000} {
		// A script is too long by its picks, whether these would be steps or not.
		for _, k := range []int{0, -1} {
			r, e := play.Run(example(), times(n, k))
			refuses(t, r, e, api.ErrLong)
		}
	}
}

func TestRunOfTheLongestScript(t *testing.T) {
	const all = api.MaxScript
	r := runs(t, endless(), append([]int{0}, times(all-1, 1)...)...)
	if len(r.Picks) != all || len(r.Trace) != all || len(r.Prints) != all/2 || r.Status != api.Cut {
		t.Errorf("%d picks, %d events, %d told, status %d", len(r.Picks), len(r.Trace), len(r.Prints), r.Status)
	}
	if last := r.Trace[all-1]; last != (api.Event{Thread: 1, Op: api.Print}) {
		t.Errorf("the last of %d steps: %v", all, last)
	}
	tells(t, runs(t, endless(), times(all, 7)...), api.Result{Status: api.Cut})
	// The last pick of all counts too.
	if r := runs(t, endless(), append(times(all-1, 7), 0)...); !slices.Equal(r.Picks, []int{0}) {
		t.Errorf("the last pick of %d: %v", all, r.Picks)
	}
}

// Where both are so, the program is asked first.
func TestWhichErrorComesFirst(t *testing.T) {
	for _, p := range wrong() {
		r, e := play.Run(p, times(api.MaxScript+1, 0))
		refuses(t, r, e, api.ErrArg)
		for _, most := range []int{-1, api.MaxScript + 1, math.MinInt, math.MaxInt} {
			r, e := play.Round(p, most)
			refuses(t, r, e, api.ErrArg)
		}
	}
}

func TestRunByNothing(t *testing.T) {
	tells(t, runs(t, example()), api.Result{Status: api.Cut})
	r, e := play.Run(example(), []int{})
	if e != api.OK {
		t.Errorf("error %d", e)
	}
	tells(t, r, api.Result{Status: api.Cut})
	tells(t, runs(t, many(nil, []api.Ins{{}})), api.Result{Status: api.Done})
	tells(t, runs(t, many(nil), 0, 0, 1), api.Result{Status: api.Done})
}

func TestPicksOfThreadsThatThereAreNoneOf(t *testing.T) {
	p := example()
	want := runs(t, p, 0, 1, 1, 0)
	for _, k := range []int{-1, -2, 2, 3, api.MaxThreads, api.MaxThreads + 1, 63, 64, -64, math.MinInt, math.MaxInt} {
		tells(t, runs(t, p, k), api.Result{Status: api.Cut})
		tells(t, runs(t, p, k, 0, k, k, 1, k, 1, k, 0, k), want)
	}
	six := many([]api.Ins{{Op: api.Go, A: 5}}, nil, nil, nil, nil, []api.Ins{{Op: api.Print, A: 0}})
	if r := runs(t, six, 6, 0, 6, 5, -1); !slices.Equal(r.Picks, []int{0, 5}) || r.Status != api.Done {
		t.Errorf("six threads: picks %v, status %d", r.Picks, r.Status)
	}
}

// Threads that have not begun, and that have ended, make no steps.
func TestPicksOfThreadsThatAreNotOn(t *testing.T) {
	p := example()
	tells(t, runs(t, p, 1, 1, 1), api.Result{Status: api.Cut})
	want := runs(t, p, 0, 1, 1, 0)
	tells(t, runs(t, p, 1, 0, 1, 1, 1, 1, 0, 0, 1), want)
	ended := many([]api.Ins{{Op: api.Go, A: 1}}, []api.Ins{{}, {}})
	tells(t, runs(t, ended, 0, 0, 1, 0, 0), api.Result{
		Status: api.Cut,
		Picks:  []int{0, 1},
		Trace:  []api.Event{{Op: api.Go, Obj: 1}, {Thread: 1, Op: api.Nop}},
	})
}

// A pick of a thread that is blocked is none; the same pick is a step when another has let it go on.
func TestPicksOfThreadsThatAreBlocked(t *testing.T) {
	for _, c := range []struct {
		name  string
		ahead []api.Ins // what thread 0 does ahead of Go
		waits api.Ins
		frees api.Ins
	}{
		{"lock", []api.Ins{{Op: api.Lock}}, api.Ins{Op: api.Lock}, api.Ins{Op: api.Unlock}},
		{"lock of readers", []api.Ins{{Op: api.RLock}}, api.Ins{Op: api.Lock}, api.Ins{Op: api.RUnlock}},
		{"rlock", []api.Ins{{Op: api.Lock}}, api.Ins{Op: api.RLock}, api.Ins{Op: api.Unlock}},
		{"send", []api.Ins{{Op: api.Send}}, api.Ins{Op: api.Send}, api.Ins{Op: api.Recv}},
		{"recv", nil, api.Ins{Op: api.Recv}, api.Ins{Op: api.Send}},
		{"recv of what is closed", nil, api.Ins{Op: api.Recv}, api.Ins{Op: api.Close}},
		{"wait", []api.Ins{{Op: api.Grow, B: 1}}, api.Ins{Op: api.Wait}, api.Ins{Op: api.Grow, B: -1}},
		{"begin", []api.Ins{{Op: api.Begin}}, api.Ins{Op: api.Begin}, api.Ins{Op: api.End}},
	} {
		first := append(slices.Clone(c.ahead), api.Ins{Op: api.Go, A: 1})
		p := many(append(first, c.frees), []api.Ins{c.waits})
		script := times(len(first), 0)
		blocked := runs(t, p, append(script, 1, 1)...)
		if blocked.Status != api.Cut || !slices.Equal(blocked.Picks, script) || len(blocked.Trace) != len(script) {
			t.Errorf("%s: blocked: %v", c.name, blocked)
		}
		want := append(script, 0, 1)
		free := runs(t, p, append(script, 1, 0, 1, 1)...)
		if free.Status != api.Done || !slices.Equal(free.Picks, want) || len(free.Trace) != len(want) {
			t.Errorf("%s: free: %v", c.name, free)
		}
	}
}

func TestPicksBehindATrap(t *testing.T) {
	p := many([]api.Ins{{Op: api.Go, A: 1}, {Op: api.Unlock, A: 2}, {Op: api.Print}}, []api.Ins{{Op: api.Print}, {Op: api.Print}})
	want := api.Result{
		Prints: []int{0},
		Status: api.Trap,
		Picks:  []int{0, 1, 0},
		Trace: []api.Event{
			{Op: api.Go, Obj: 1},
			{Thread: 1, Op: api.Print},
			{Pc: 1, Op: api.Unlock, Obj: 2},
		},
	}
	tells(t, runs(t, p, 0, 1, 0), want)
	tells(t, runs(t, p, 0, 1, 0, 0, 1, 1, 0, -1, 2), want)
}

// Each status is that of the end, not of what was on the way.
func TestStatus(t *testing.T) {
	recv := many([]api.Ins{{Op: api.Const, A: 0, B: 3}, {Op: api.Print, A: 0}, {Op: api.Recv, A: 0, B: 1}, {Op: api.Print, A: 0}})
	twice := many([]api.Ins{{Op: api.Close}, {Op: api.Close}, {}})
	for _, c := range []struct {
		name   string
		p      api.Program
		script []int
		status uint8
		prints []int
	}{
		{"ahead of all steps", example(), nil, api.Cut, nil},
		{"one thread ended", example(), []int{0, 0}, api.Cut, []int{0}},
		{"one step ahead of the end", example(), []int{0, 1, 1}, api.Cut, []int{5}},
		{"the end", example(), []int{0, 1, 1, 0}, api.Done, []int{5, 0}},
		{"behind the end", example(), []int{0, 1, 1, 0, 0, 1}, api.Done, []int{5, 0}},
		{"a thread that never began", many([]api.Ins{{}}, []api.Ins{{}}), []int{0, 1}, api.Done, nil},
		{"ahead of what never comes", recv, []int{0}, api.Cut, nil},
		{"at what never comes", recv, []int{0, 0}, api.Stuck, []int{3}},
		{"still at what never comes", recv, times(50, 0), api.Stuck, []int{3}},
		{"ahead of a trap", twice, []int{0}, api.Cut, nil},
		{"a trap", twice, []int{0, 0}, api.Trap, nil},
		{"behind a trap", twice, []int{0, 0, 0, 0}, api.Trap, nil},
	} {
		r := runs(t, c.p, c.script...)
		if r.Status != c.status || !slices.Equal(r.Prints, c.prints) {
			t.Errorf("%s: status %d, told %v", c.name, r.Status, r.Prints)
		}
	}
}

// A thread that waits is not passed over for good, if a pick of it was none while others could go on.
func TestPicksThatAreNoneEndNothing(t *testing.T) {
	p := many(
		[]api.Ins{{Op: api.Go, A: 1}, {Op: api.Recv, A: 0, B: 0}, {Op: api.Print, A: 0}},
		[]api.Ins{{Op: api.Const, A: 1, B: 9}, {Op: api.Send, A: 0, B: 1}},
	)
	r := runs(t, p, 0, 0, 0, 1, 0, 1, 0, 1, 0)
	tells(t, r, api.Result{
		Prints: []int{9},
		Status: api.Done,
		Picks:  []int{0, 1, 1, 0, 0},
		Trace: []api.Event{
			{Op: api.Go, Obj: 1},
			{Thread: 1, Op: api.Const},
			{Thread: 1, Pc: 1, Op: api.Send, Value: 9},
			{Pc: 1, Op: api.Recv, Value: 9, Mode: 1},
			{Pc: 2, Op: api.Print, Value: 9},
		},
	})
}

// Numbers that grow are taken modulo 2^64, in events and in what is told.
func TestNumbersWrapRound(t *testing.T) {
	p := many([]api.Ins{{Op: api.Const, A: 0, B: math.MaxInt}, {Op: api.Add, A: 0, B: 0, C: 0}, {Op: api.Store, A: 7, B: 0}, {Op: api.Print, A: 0}})
	r := runs(t, p, times(4, 0)...)
	if !slices.Equal(r.Prints, []int{-2}) || r.Trace[2] != (api.Event{Pc: 2, Op: api.Store, Obj: 7, Value: -2}) {
		t.Errorf("%v", r)
	}
}
