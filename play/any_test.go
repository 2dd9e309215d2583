package play_test

import (
	"math"
	"slices"
	"testing"

	"interlock/api"
	"interlock/ir"
	"interlock/play"
	"interlock/state"
)

// sequence is a row of numbers that hangs on nothing but where it began.
type sequence uint64

// below is the next number, from 0 to n - 1.
func (s *sequence) below(n int) int {
	*s = *s*6364136223846793005 + 1442695040888963407
	return int(uint64(*s) >> 33 % uint64(n))
}

// instruction is one of a program of two of everything, with n threads, in code of size instructions; those that may be traps are fewer, for runs to be longer.
func (s *sequence) instruction(n, size int) api.Ins {
	op := uint8(s.below(api.Ops))
	switch op {
	case api.Unlock, api.RUnlock, api.End, api.Close:
		if s.below(6) > 0 {
			op = api.Print
		}
	}
	i := api.Ins{Op: op}
	_, words := ir.Name(op)
	for _, to := range []*int{&i.A, &i.B, &i.C}[:words] {
		*to = s.below(2)
	}
	switch op {
	case api.Const:
		i.B = s.below(9) - 4
	case api.Jump:
		i.A = s.below(size + 1)
	case api.Zero:
		i.B = s.below(size + 1)
	case api.Go:
		i.A = 1 + s.below(n-1)
	}
	return i
}

// program is one in which thread 0 begins with Go, so that there are turns to be taken, and others are seldom at Go, which is mostly a trap then.
func (s *sequence) program() api.Program {
	p := api.Program{Vars: 2, Atoms: 2, Locks: 2, Chans: []int{1 + s.below(3), 1 + s.below(3)}, Groups: 2, Onces: 2}
	p.Threads = make([][]api.Ins, 2+s.below(5))
	for k := range p.Threads {
		code := make([]api.Ins, s.below(13))
		for at := range code {
			code[at] = s.instruction(len(p.Threads), len(code))
		}
		p.Threads[k] = code
	}
	p.Threads[0] = append([]api.Ins{{Op: api.Go, A: 1 + s.below(len(p.Threads)-1)}}, p.Threads[0]...)
	for _, code := range p.Threads[1:] {
		for at, i := range code {
			if i.Op == api.Go && s.below(3) > 0 {
				code[at] = api.Ins{Op: api.Print, A: s.below(api.Regs)}
			}
		}
	}
	return p
}

// script is picks of threads of which one in each dozen or so is none that there is.
func (s *sequence) script(n, most int) []int {
	far := []int{-1, n, n + 1, math.MinInt, math.MaxInt}
	script := make([]int, s.below(most+1))
	for at := range script {
		script[at] = s.below(n)
		if s.below(12) == 0 {
			script[at] = far[s.below(len(far))]
		}
	}
	return script
}

// begins is a state of a program that may be.
func begins(t *testing.T, p api.Program) *state.State {
	t.Helper()
	s := state.New(p)
	if s == nil {
		t.Fatalf("no state of %v", p)
	}
	return s
}

// stepped is what steps of a state come to, pick by pick, each asked ahead of it whether it can be.
func stepped(t *testing.T, p api.Program, script []int) api.Result {
	t.Helper()
	s := begins(t, p)
	var r api.Result
	for _, k := range script {
		if !s.Can(k) {
			continue
		}
		e, _ := s.Step(k)
		if e.Op == api.Print {
			r.Prints = append(r.Prints, e.Value)
		}
		r.Picks = append(r.Picks, k)
		r.Trace = append(r.Trace, e)
	}
	r.Status = s.Status()
	return r
}

// turn is whose turn it is in a state: of all that can go on the first above the last, else the first; -1: none's.
func turn(s *state.State, n, last int) int {
	var can []int
	for k := range n {
		if s.Can(k) {
			can = append(can, k)
		}
	}
	if at := slices.IndexFunc(can, func(k int) bool { return k > last }); at >= 0 {
		return can[at]
	}
	if len(can) > 0 {
		return can[0]
	}
	return -1
}

// schedule is the script of Round.
func schedule(t *testing.T, p api.Program, most int) []int {
	t.Helper()
	s := begins(t, p)
	var script []int
	last := -1
	for len(script) < most {
		last = turn(s, len(p.Threads), last)
		if last < 0 {
			break
		}
		s.Step(last)
		script = append(script, last)
	}
	return script
}

func TestRunAgainstSteps(t *testing.T) {
	statuses := map[uint8]int{}
	picked, none := 0, 0
	q := sequence(1)
	for range 4000 {
		p := q.program()
		script := q.script(len(p.Threads), 80)
		got := runs(t, p, script...)
		if want := stepped(t, p, script); !same(got, want) {
			t.Fatalf("%v by %v: %v, not %v", p, script, got, want)
		}
		if len(got.Picks) != len(got.Trace) {
			t.Fatalf("%d picks, %d events", len(got.Picks), len(got.Trace))
		}
		for at, e := range got.Trace {
			if e.Thread != got.Picks[at] {
				t.Fatalf("pick %d is %d: %v", at, got.Picks[at], e)
			}
		}
		statuses[got.Status]++
		picked += len(got.Picks)
		none += len(script) - len(got.Picks)
	}
	if len(statuses) != 4 || picked < 10000 || none < 10000 {
		t.Errorf("not all was met: statuses %v, %d steps, %d picks that were none", statuses, picked, none)
	}
}

// The picks that were steps tell the same run; and once more, they are all steps.
func TestPicksTellTheSameRun(t *testing.T) {
	q := sequence(2)
	for range 2000 {
		p := q.program()
		script := q.script(len(p.Threads), 80)
		got := runs(t, p, script...)
		if again := runs(t, p, got.Picks...); !same(got, again) {
			t.Fatalf("%v by %v: %v, by its picks %v", p, script, got, again)
		}
	}
}

// Picks that are none may stand wherever they like.
func TestPicksThatAreNoneChangeNothing(t *testing.T) {
	q := sequence(3)
	for range 1000 {
		p := q.program()
		got := runs(t, p, q.script(len(p.Threads), 60)...)
		s := begins(t, p)
		var script []int
		for _, k := range append(slices.Clone(got.Picks), -1) {
			for other := range len(p.Threads) + 1 {
				if !s.Can(other) {
					script = append(script, other)
				}
			}
			script = append(script, k)
			s.Step(k)
		}
		if again := runs(t, p, script...); !same(got, again) {
			t.Fatalf("%v by %v: %v, not %v", p, script, again, got)
		}
	}
}

// A longer script tells all that a shorter one told, and more.
func TestLongerScriptsTellMore(t *testing.T) {
	q := sequence(4)
	for range 300 {
		p := q.program()
		script := q.script(len(p.Threads), 60)
		was := runs(t, p)
		for n := range script {
			now := runs(t, p, script[:n+1]...)
			more := len(now.Picks) - len(was.Picks)
			if more < 0 || more > 1 || len(now.Prints) < len(was.Prints) {
				t.Fatalf("%v by %v: %v, then %v", p, script[:n+1], was, now)
			}
			begun := api.Result{
				Prints: now.Prints[:len(was.Prints)],
				Status: was.Status,
				Picks:  now.Picks[:len(was.Picks)],
				Trace:  now.Trace[:len(was.Trace)],
			}
			if !same(begun, was) || more == 0 && !same(now, was) {
				t.Fatalf("%v by %v: %v, then %v", p, script[:n+1], was, now)
			}
			if more == 1 && (was.Status != api.Cut || now.Picks[len(was.Picks)] != script[n]) {
				t.Fatalf("%v by %v: a step of %v, behind status %d", p, script[:n+1], now.Picks, was.Status)
			}
			was = now
		}
	}
}

func TestRoundAgainstTurns(t *testing.T) {
	statuses := map[uint8]int{}
	q := sequence(5)
	for range 3000 {
		p := q.program()
		most := q.below(60)
		if q.below(20) == 0 {
			most = api.MaxScript
		}
		script := schedule(t, p, most)
		got := rounds(t, p, most)
		if want := stepped(t, p, script); !same(got, want) {
			t.Fatalf("%v with %d: %v, not %v", p, most, got, want)
		}
		if again := runs(t, p, got.Picks...); !same(got, again) {
			t.Fatalf("%v with %d: %v, by its picks %v", p, most, got, again)
		}
		if !slices.Equal(got.Picks, script) || len(got.Picks) < most && got.Status == api.Cut {
			t.Fatalf("%v with %d: picks %v, not %v, status %d", p, most, got.Picks, script, got.Status)
		}
		statuses[got.Status]++
	}
	if len(statuses) != 4 {
		t.Errorf("not all was met: statuses %v", statuses)
	}
}

// roomy is a list in memory that goes on behind its length with so many others.
func roomy[T any](list []T, others ...T) []T {
	return append(slices.Clone(list), others...)[:len(list)]
}

// whole is a list with all that lies behind its length.
func whole[T any](list []T) []T { return list[:cap(list)] }

// What is handed in, and what lies behind it, is neither changed nor read.
func TestWhatIsHandedInStays(t *testing.T) {
	q := sequence(6)
	odd := api.Ins{Op: 200, A: -1, B: -1, C: -1}
	for range 500 {
		p := q.program()
		script := q.script(len(p.Threads), 40)
		given := p
		given.Chans = roomy(p.Chans, 0, 99)
		given.Threads = roomy(p.Threads, []api.Ins{odd})
		for k, code := range given.Threads {
			given.Threads[k] = roomy(code, odd, odd)
		}
		picks := roomy(script, 0, 1, 0, 1)
		tells(t, runs(t, given, picks...), runs(t, p, script...))
		tells(t, rounds(t, given, 40), rounds(t, p, 40))
		kept := slices.Equal(given.Chans, p.Chans) && slices.Equal(picks, script) && slices.Equal(whole(picks)[len(picks):][:4], []int{0, 1, 0, 1}) &&
			slices.Equal(whole(given.Chans)[len(p.Chans):][:2], []int{0, 99}) && len(given.Threads) == len(p.Threads) &&
			slices.Equal(whole(given.Threads)[len(p.Threads)], []api.Ins{odd})
		for k, code := range given.Threads {
			kept = kept && slices.Equal(code, p.Threads[k]) && slices.Equal(whole(code)[len(code):][:2], []api.Ins{odd, odd})
		}
		if !kept {
			t.Fatalf("%v, by %v, is now %v, by %v", p, script, given, picks)
		}
	}
}

// What was handed in is not kept: it may be changed behind a call, and the next call goes by what it is then.
func TestWhatIsHandedInIsNotKept(t *testing.T) {
	p, script := example(), []int{0, 1, 1, 0}
	was, turns := runs(t, p, script...), rounds(t, p, 9)
	want, ways := runs(t, example(), 0, 1, 1, 0), rounds(t, example(), 9)
	p.Threads[1][0].B = 6
	script[0], script[3] = 1, 1
	tells(t, was, want)
	tells(t, turns, ways)
	if r := runs(t, p, script...); len(r.Picks) != 0 {
		t.Errorf("picks %v by %v", r.Picks, script)
	}
	if r := rounds(t, p, 9); !slices.Equal(r.Prints, []int{0, 6}) {
		t.Errorf("told %v", r.Prints)
	}
}

// spoil writes over a list, and over all the memory behind it.
func spoil[T any](list []T, with T) {
	for at := range whole(list) {
		whole(list)[at] = with
	}
}

// What is handed out is new memory: of each call, and of each list of one answer.
func TestWhatIsHandedOutIsNew(t *testing.T) {
	p := many([]api.Ins{{Op: api.Print, A: 0}, {Op: api.Print, A: 0}, {Op: api.Jump, A: 0}})
	script := times(50, 0)
	for _, ask := range []func() api.Result{
		func() api.Result { return runs(t, p, script...) },
		func() api.Result { return rounds(t, p, len(script)) },
	} {
		first, second := ask(), ask()
		spoil(first.Prints, -7)
		tells(t, api.Result{Prints: second.Prints, Picks: first.Picks, Trace: first.Trace}, second)
		spoil(first.Picks, -7)
		tells(t, api.Result{Prints: second.Prints, Picks: second.Picks, Trace: first.Trace}, second)
		spoil(first.Trace, api.Event{Thread: -7})
		tells(t, ask(), second)
		tells(t, stepped(t, p, script), second)
		if !slices.Equal(script, times(50, 0)) {
			t.Fatalf("the script is %v", script)
		}
	}
}

// No program makes a call panic, and where there is an error nothing is told.
func FuzzAnything(f *testing.F) {
	f.Add([]byte{0, 1, 0, 0, 0, 12, 1, 0, 0, 9}, 5)
	f.Add([]byte{255, 128, 3, 4, 10, 0}, -1)
	f.Fuzz(func(t *testing.T, data []byte, most int) {
		at := 0
		next := func() int {
			if at >= len(data) {
				return 0
			}
			at++
			return int(int8(data[at-1]))
		}
		p := api.Program{Vars: next(), Atoms: next(), Locks: next(), Groups: next(), Onces: next()}
		for range next() & 7 {
			p.Chans = append(p.Chans, next())
		}
		for range next() & 7 {
			var code []api.Ins
			for range next() & 63 {
				code = append(code, api.Ins{Op: uint8(next()), A: next(), B: next(), C: next()})
			}
			p.Threads = append(p.Threads, code)
		}
		var script []int
		for range data {
			script = append(script, next(), most)
		}
		anything(t, p, script, most)
	})
}

// anything holds both calls to what holds whatever they are given.
func anything(t *testing.T, p api.Program, script []int, most int) {
	t.Helper()
	r, e := play.Run(p, script)
	switch {
	case state.New(p) == nil:
		refuses(t, r, e, api.ErrArg)
	case len(script) > api.MaxScript:
		refuses(t, r, e, api.ErrLong)
	default:
		tells(t, r, stepped(t, p, script))
	}
	r, e = play.Round(p, most)
	switch {
	case state.New(p) == nil:
		refuses(t, r, e, api.ErrArg)
	case most < 0 || most > api.MaxScript:
		refuses(t, r, e, api.ErrLong)
	default:
		tells(t, r, stepped(t, p, schedule(t, p, most)))
	}
}

// Programs that are mostly not sound, with numbers from everywhere.
func TestAnything(t *testing.T) {
	numbers := []int{0, 0, 1, 1, 2, 3, 4, 8, 60, -1, math.MinInt, math.MaxInt}
	q := sequence(7)
	number := func() int { return numbers[q.below(len(numbers))] }
	for range 3000 {
		p := q.program()
		switch q.below(5) {
		case 0:
			p.Vars, p.Groups = number(), number()
		case 1:
			p.Chans = append(p.Chans, number())
		case 2:
			k := q.below(len(p.Threads))
			p.Threads[k] = append(p.Threads[k], api.Ins{Op: uint8(q.below(256)), A: number(), B: number(), C: number()})
		case 3:
			p.Threads = slices.Repeat(p.Threads, q.below(4))
		}
		script := make([]int, q.below(30))
		if q.below(10) == 0 {
			script = make([]int, api.MaxScript-1+q.below(4))
		}
		for at := range script {
			script[at] = number()
		}
		anything(t, p, script, number())
	}
}
