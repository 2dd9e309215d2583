package play_test

import (
	"math"
	"slices"
	"testing"

	"interlock/api"
	"interlock/play"
)

// plain is code of so many instructions that do nothing.
func plain(n int) []api.Ins { return make([]api.Ins, n) }

// starts is code that begins threads 1 to n, and then does nothing so many times.
func starts(n, nops int) []api.Ins {
	var code []api.Ins
	for k := range n {
		code = append(code, api.Ins{Op: api.Go, A: k + 1})
	}
	return append(code, plain(nops)...)
}

// turned holds Round, with more turns than there are, to its picks and to what it comes to; and Run of these picks to the same result.
func turned(t *testing.T, p api.Program, status uint8, picks ...int) {
	t.Helper()
	r := rounds(t, p, api.MaxScript)
	if r.Status != status || !slices.Equal(r.Picks, picks) {
		t.Errorf("picks %v, status %d, not %v, %d", r.Picks, r.Status, picks, status)
	}
	tells(t, r, runs(t, p, picks...))
}

func TestRoundOfTheExample(t *testing.T) {
	tells(t, rounds(t, example(), 9), api.Result{
		Prints: []int{0, 5},
		Status: api.Done,
		Picks:  []int{0, 1, 0, 1},
		Trace: []api.Event{
			{Op: api.Go, Obj: 1},
			{Thread: 1, Op: api.Const},
			{Pc: 1, Op: api.Print},
			{Thread: 1, Pc: 1, Op: api.Print, Value: 5},
		},
	})
}

func TestRoundOfWhatMayNotBe(t *testing.T) {
	for _, p := range wrong() {
		for _, most := range []int{0, 1, api.MaxScript} {
			r, e := play.Round(p, most)
			refuses(t, r, e, api.ErrArg)
		}
	}
}

func TestRoundOfTooMany(t *testing.T) {
	for _, p := range []api.Program{example(), endless(), many(nil)} {
		for _, most := range []int{-1, -2, -api.MaxScript, api.MaxScript + 1, api.MaxScript + 2, math.MinInt, math.MaxInt} {
			r, e := play.Round(p, most)
			refuses(t, r, e, api.ErrLong)
		}
	}
}

func TestRoundOfNone(t *testing.T) {
	tells(t, rounds(t, example(), 0), api.Result{Status: api.Cut})
	tells(t, rounds(t, endless(), 0), api.Result{Status: api.Cut})
	tells(t, rounds(t, many(nil), 0), api.Result{Status: api.Done})
	tells(t, rounds(t, many([]api.Ins{{Op: api.Recv}}), 0), api.Result{Status: api.Stuck})
}

func TestRoundOfTheMost(t *testing.T) {
	const all = api.MaxScript
	r := rounds(t, endless(), all)
	if len(r.Picks) != all || len(r.Trace) != all || len(r.Prints) != all/4 || r.Status != api.Cut {
		t.Errorf("%d picks, %d events, %d told, status %d", len(r.Picks), len(r.Trace), len(r.Prints), r.Status)
	}
	for at, k := range r.Picks {
		if k != at%2 {
			t.Fatalf("pick %d is %d", at, k)
		}
	}
	tells(t, r, runs(t, endless(), r.Picks...))
}

// There are most steps, neither one more nor one fewer, unless none can go on ahead of that.
func TestRoundOfSoMany(t *testing.T) {
	all := rounds(t, endless(), api.MaxScript)
	for _, most := range []int{0, 1, 2, 3, 7, 100, 1999} {
		r := rounds(t, endless(), most)
		if !slices.Equal(r.Picks, all.Picks[:most]) || !slices.Equal(r.Trace, all.Trace[:most]) || r.Status != api.Cut {
			t.Errorf("most %d: %d picks, status %d", most, len(r.Picks), r.Status)
		}
	}
	for most := range 8 {
		r := rounds(t, example(), most)
		status := api.Cut
		if most >= 4 {
			status = api.Done
		}
		if len(r.Picks) != min(most, 4) || r.Status != status {
			t.Errorf("most %d: picks %v, status %d", most, r.Picks, r.Status)
		}
	}
}

// Each turn begins behind the last pick; threads that have not begun, or have ended, are passed over.
func TestRoundGoesRound(t *testing.T) {
	turned(t, many(nil), api.Done)
	turned(t, many(plain(3)), api.Done, 0, 0, 0)
	turned(t, many(starts(1, 3), plain(2)), api.Done, 0, 1, 0, 1, 0, 0)
	turned(t, many(starts(2, 2), plain(3), plain(1)), api.Done, 0, 1, 0, 1, 2, 0, 1, 0)
	turned(t, many(starts(5, 1), plain(2), plain(2), plain(2), plain(2), plain(2)), api.Done,
		0, 1, 0, 1, 2, 0, 2, 3, 0, 3, 4, 0, 4, 5, 0, 5)
	// Thread 2 alone has begun: the turns go by 0 and 1, and on from 2 to 0.
	turned(t, many([]api.Ins{{Op: api.Go, A: 2}, {}}, plain(1), plain(3)), api.Done, 0, 2, 0, 2, 2)
	// The last thread begins others behind which it does not go on itself.
	turned(t, many([]api.Ins{{Op: api.Go, A: 2}}, plain(2), []api.Ins{{Op: api.Go, A: 1}, {}}), api.Done, 0, 2, 1, 2, 1)
}

// Threads that are blocked are passed over, till they are not.
func TestRoundPassesOverTheBlocked(t *testing.T) {
	lock, unlock := api.Ins{Op: api.Lock}, api.Ins{Op: api.Unlock}
	p := many([]api.Ins{{Op: api.Go, A: 1}, lock, {}, unlock}, []api.Ins{lock, {}, unlock})
	turned(t, p, api.Done, 0, 1, 1, 1, 0, 0, 0)
	send, recv := api.Ins{Op: api.Send}, api.Ins{Op: api.Recv}
	turned(t, many([]api.Ins{{Op: api.Go, A: 1}, send, send, send}, []api.Ins{recv, recv, recv}), api.Done, 0, 0, 1, 0, 1, 0, 1)
}

func TestRoundStopsWhereNoneCanGoOn(t *testing.T) {
	turned(t, many([]api.Ins{{Op: api.Recv}}), api.Stuck)
	lock := func(x int) api.Ins { return api.Ins{Op: api.Lock, A: x} }
	p := many([]api.Ins{{Op: api.Go, A: 1}, lock(0), lock(1)}, []api.Ins{lock(1), lock(0)})
	turned(t, p, api.Stuck, 0, 1, 0)
	// One has ended, the other waits.
	turned(t, many([]api.Ins{{Op: api.Go, A: 1}, {Op: api.Print}}, []api.Ins{{Op: api.Recv}}), api.Stuck, 0, 0)
}

func TestRoundStopsBehindATrap(t *testing.T) {
	p := many([]api.Ins{{Op: api.Go, A: 1}, {}, {}, {}}, []api.Ins{{Op: api.Print, A: 0}, {Op: api.End, A: 3}, {}, {Op: api.Print, A: 0}})
	turned(t, p, api.Trap, 0, 1, 0, 1)
	r := rounds(t, p, api.MaxScript)
	if last := r.Trace[len(r.Trace)-1]; last != (api.Event{Thread: 1, Pc: 1, Op: api.End, Obj: 3}) || !slices.Equal(r.Prints, []int{0}) {
		t.Errorf("the trap: %v, told %v", last, r.Prints)
	}
	tells(t, rounds(t, p, 4), r)
	if r := rounds(t, p, 3); r.Status != api.Cut {
		t.Errorf("ahead of the trap: status %d", r.Status)
	}
}
