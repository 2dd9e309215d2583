package ir_test

import (
	"math"
	"strings"
	"testing"

	"interlock/api"
	"interlock/ir"
)

// chapter is the table of doc/02-ir.md, row by row in the order of Op: the name, A, B, C (- for none), and p, a, r for plain, acquire, release.
const chapter = `
nop     -        -        -     p
const   sets     number   -     p
move    sets     uses     -     p
add     sets     uses     uses  p
sub     sets     uses     uses  p
mul     sets     uses     uses  p
less    sets     uses     uses  p
load    sets     variable -     p
store   variable uses     -     p
print   uses     -        -     .
jump    place    -        -     .
zero    uses     place    -     .
go      thread   -        -     r
lock    lock     -        -     a
unlock  lock     -        -     r
rlock   lock     -        -     a
runlock lock     -        -     r
read    sets     atom     -     a
write   atom     uses     -     r
bump    sets     atom     uses  ar
send    channel  uses     -     ar
recv    sets     channel  -     ar
poll    sets     channel  sets  ar
close   channel  -        -     r
grow    group    number   -     r
wait    group    -        -     a
begin   sets     once     -     a
end     once     -        -     r
`

// given holds api's names for the Ops against the names of the table, which a wrong order of rows would not show.
var given = map[string]uint8{
	"nop": api.Nop, "const": api.Const, "move": api.Move, "add": api.Add, "sub": api.Sub, "mul": api.Mul, "less": api.Less,
	"load": api.Load, "store": api.Store, "print": api.Print, "jump": api.Jump, "zero": api.Zero, "go": api.Go,
	"lock": api.Lock, "unlock": api.Unlock, "rlock": api.RLock, "runlock": api.RUnlock,
	"read": api.Read, "write": api.Write, "bump": api.Bump, "send": api.Send, "recv": api.Recv, "poll": api.Poll, "close": api.Close,
	"grow": api.Grow, "wait": api.Wait, "begin": api.Begin, "end": api.End,
}

// line is a row of the chapter's table.
type line struct {
	op    uint8
	name  string
	words [3]string
	kinds string
}

// lines reads the chapter's table.
func lines(t *testing.T) []line {
	t.Helper()
	var all []line
	for k, s := range strings.Split(strings.TrimSpace(chapter), "\n") {
		f := strings.Fields(s)
		all = append(all, line{uint8(k), f[0], [3]string{f[1], f[2], f[3]}, f[4]})
	}
	if len(all) != api.Ops || len(given) != api.Ops {
		t.Fatalf("%d rows, %d names, not %d", len(all), len(given), api.Ops)
	}
	for _, l := range all {
		if op, is := given[l.name]; !is || op != l.op {
			t.Fatalf("%s is %d in the table, %d in api", l.name, l.op, op)
		}
	}
	return all
}

// above calls f with each Op that the table does not have.
func above(f func(op uint8)) {
	for op := api.Ops; op <= math.MaxUint8; op++ {
		f(uint8(op))
	}
}

// with is an instruction whose numbers are in a row.
func with(op uint8, n [3]int) api.Ins {
	return api.Ins{Op: op, A: n[0], B: n[1], C: n[2]}
}

func TestPlainAcquireRelease(t *testing.T) {
	calls := []struct {
		name string
		kind string
		call func(uint8) bool
	}{
		{"Plain", "p", ir.Plain},
		{"Acquire", "a", ir.Acquire},
		{"Release", "r", ir.Release},
	}
	for _, c := range calls {
		for _, l := range lines(t) {
			if got, want := c.call(l.op), strings.Contains(l.kinds, c.kind); got != want {
				t.Errorf("%s(%s) is %v", c.name, l.name, got)
			}
		}
		above(func(op uint8) {
			if c.call(op) {
				t.Errorf("%s(%d) is true", c.name, op)
			}
		})
	}
}

func TestName(t *testing.T) {
	for _, l := range lines(t) {
		n := 0
		for _, w := range l.words {
			if w != "-" {
				n++
			}
		}
		if name, m := ir.Name(l.op); name != l.name || m != n {
			t.Errorf("Name(%d) is %q, %d, not %q, %d", l.op, name, m, l.name, n)
		}
	}
	above(func(op uint8) {
		if name, n := ir.Name(op); name != "" || n != 0 {
			t.Errorf("Name(%d) is %q, %d", op, name, n)
		}
	})
}

func TestFind(t *testing.T) {
	for _, l := range lines(t) {
		if op, is := ir.Find(l.name); op != l.op || !is {
			t.Errorf("Find(%q) is %d, %v", l.name, op, is)
		}
	}
}

func TestFindWhatThereIsNot(t *testing.T) {
	names := []string{
		"", " ", "?", "-", "0", "27", "28", "no", "thread", "program", "sets", "uses", "plain",
		"\x00", "\xff", "nop\x00", "n\u00f6p", strings.Repeat("nop", 10000),
	}
	for _, l := range lines(t) {
		names = append(names,
			strings.ToUpper(l.name), strings.ToUpper(l.name[:1])+l.name[1:],
			l.name+" ", " "+l.name, l.name+"\n", l.name+"s", l.name[:len(l.name)-1], l.name[1:], l.name+l.name)
	}
	for _, name := range names {
		if _, is := given[name]; is { // one name's piece may be another's whole
			continue
		}
		if op, is := ir.Find(name); op != 0 || is {
			t.Errorf("Find(%q) is %d, %v", name, op, is)
		}
	}
}

// set is the set of those of n that are 0 to 63 and whose word is w, made without bits.
func set(words [3]string, n [3]int, w string) uint64 {
	s := uint64(0)
	for k := range n {
		if words[k] == w && n[k] >= 0 && n[k] <= 63 {
			s |= 1 << uint(n[k])
		}
	}
	return s
}

// rows of numbers for A, B, C: each alone, alike, a thread's registers, those beyond that a set can hold, its last ones, and such as are in none. Modulo 64 some of these are in one.
var numbers = [][3]int{
	{0, 0, 0}, {1, 0, 0}, {0, 1, 0}, {0, 0, 1}, {0, 1, 2}, {3, 2, 1}, {2, 2, 2}, {3, 3, 3},
	{4, 5, 6}, {31, 32, 33}, {61, 62, 63}, {63, 0, 62}, {62, 64, 63}, {64, 65, 66}, {127, 128, 129},
	{-1, -2, -3}, {-1, 0, 1}, {0, -1, 1}, {0, 1, -1}, {-64, -63, -62},
	{1 << 32, 1<<32 + 1, 1 << 40}, {math.MinInt, math.MaxInt, math.MinInt}, {math.MaxInt, math.MinInt, math.MaxInt},
	{math.MinInt, 3, math.MaxInt}, {2, math.MaxInt, 3},
}

func TestUsesSets(t *testing.T) {
	for _, l := range lines(t) {
		for _, n := range numbers {
			i := with(l.op, n)
			if got, want := ir.Uses(i), set(l.words, n, "uses"); got != want {
				t.Errorf("Uses(%s %v) is %x, not %x", l.name, n, got, want)
			}
			if got, want := ir.Sets(i), set(l.words, n, "sets"); got != want {
				t.Errorf("Sets(%s %v) is %x, not %x", l.name, n, got, want)
			}
		}
	}
	above(func(op uint8) {
		for _, n := range numbers {
			if u, s := ir.Uses(with(op, n)), ir.Sets(with(op, n)); u != 0 || s != 0 {
				t.Errorf("Op %d %v: Uses %x, Sets %x", op, n, u, s)
			}
		}
	})
}

func TestPollSetsBoth(t *testing.T) {
	if got := ir.Sets(api.Ins{Op: api.Poll, A: 1, B: 2, C: 3}); got != 1<<1|1<<3 {
		t.Errorf("Sets of poll 1 2 3 is %x", got)
	}
	if got := ir.Sets(api.Ins{Op: api.Poll, A: 2, B: 1, C: 2}); got != 1<<2 {
		t.Errorf("Sets of poll 2 1 2 is %x", got)
	}
	if got := ir.Uses(api.Ins{Op: api.Poll, A: 1, B: 2, C: 3}); got != 0 {
		t.Errorf("Uses of poll 1 2 3 is %x", got)
	}
}

func TestExamples(t *testing.T) {
	if got := ir.Uses(api.Ins{Op: api.Add, A: 0, B: 1, C: 2}); got != 1<<1|1<<2 {
		t.Errorf("Uses of add 0 1 2 is %x", got)
	}
	if name, n := ir.Name(api.Store); name != "store" || n != 2 {
		t.Errorf("Name of Store is %q, %d", name, n)
	}
}

// What a call answers hangs on what it was given alone: asked again, in another order, it is the same.
func TestCallsKeepNothing(t *testing.T) {
	for op := math.MaxUint8; op >= 0; op-- {
		name, n := ir.Name(uint8(op))
		ir.Find(name + "x")
		again, m := ir.Name(uint8(op))
		if name != again || n != m {
			t.Errorf("Name(%d) is %q, %d, then %q, %d", op, name, n, again, m)
		}
	}
	for range 3 {
		if op, is := ir.Find("end"); op != api.End || !is {
			t.Errorf("Find(end) is %d, %v", op, is)
		}
		if op, is := ir.Find("ende"); op != 0 || is {
			t.Errorf("Find(ende) is %d, %v", op, is)
		}
	}
}
