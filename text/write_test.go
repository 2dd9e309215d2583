package text_test

import (
	"math"
	"strconv"
	"strings"
	"testing"

	"interlock/api"
	"interlock/ir"
	"interlock/text"
)

// names are the chapter's of the instructions, in the order of Op, each with how many numbers it has.
const names = `nop 0  const 2  move 2  add 3  sub 3  mul 3  less 3  load 2  store 2  print 1  jump 1  zero 2  go 1
lock 1  unlock 1  rlock 1  runlock 1  read 2  write 2  bump 3  send 2  recv 2  poll 3  close 1  grow 2  wait 1  begin 2  end 1`

// kind is an instruction's name, and how many numbers it has.
type kind struct {
	op   uint8
	name string
	n    int
}

// kinds reads names.
func kinds(t testing.TB) []kind {
	t.Helper()
	f := strings.Fields(names)
	if len(f) != 2*api.Ops {
		t.Fatalf("%d words, not %d", len(f), 2*api.Ops)
	}
	var all []kind
	for k := 0; k < len(f); k += 2 {
		n, err := strconv.Atoi(f[k+1])
		if err != nil {
			t.Fatal(err)
		}
		all = append(all, kind{uint8(k / 2), f[k], n})
	}
	return all
}

// rows of numbers for A, B and C.
var rows = [][3]int{
	{0, 0, 0}, {1, 2, 3}, {3, 2, 1}, {-1, -2, -3}, {10, 100, 1000}, {-10, 9, 99}, {60, 61, 63}, {1 << 31, 1 << 32, -1 << 32},
	{math.MaxInt, math.MinInt, math.MaxInt}, {math.MinInt, math.MaxInt, math.MinInt}, {math.MaxInt - 1, math.MinInt + 1, 0},
}

// written is an instruction's line by hand.
func written(k kind, row [3]int) string {
	s := k.name
	for _, n := range row[:k.n] {
		s += " " + strconv.FormatInt(int64(n), 10)
	}
	return s + "\n"
}

func TestCodeOfEachInstruction(t *testing.T) {
	for _, k := range kinds(t) {
		for _, row := range rows {
			i := api.Ins{Op: k.op, A: row[0], B: row[1], C: row[2]}
			if got, want := text.Code([]api.Ins{i}), written(k, row); got != want {
				t.Errorf("Code(%v) is %q, not %q", i, got, want)
			}
		}
	}
}

func TestCodeOfOpsThatThereAreNot(t *testing.T) {
	for op := api.Ops; op <= math.MaxUint8; op++ {
		for _, row := range rows {
			i := api.Ins{Op: uint8(op), A: row[0], B: row[1], C: row[2]}
			if got := text.Code([]api.Ins{i}); got != "?\n" {
				t.Errorf("Code(%v) is %q", i, got)
			}
		}
	}
}

func TestCodeOfMany(t *testing.T) {
	if got := text.Code([]api.Ins{{Op: api.Const, A: 1, B: -5}, {}}); got != "const 1 -5\nnop\n" { // the chapter's example
		t.Errorf("%q", got)
	}
	if got := text.Code(nil) + text.Code([]api.Ins{}); got != "" {
		t.Errorf("Code of nothing is %q", got)
	}
	got := text.Code([]api.Ins{{Op: 28}, {Op: api.Poll, A: 1, B: 2, C: 3}, {Op: 255, A: 1}, {Op: api.Nop, A: 4}, {Op: api.End, A: 7, B: 8, C: 9}})
	if got != "?\npoll 1 2 3\n?\nnop\nend 7\n" {
		t.Errorf("%q", got)
	}
	var code []api.Ins
	want := ""
	for range 100 { // Code does not ask whether there are more than a thread may have
		for _, k := range kinds(t) {
			code = append(code, api.Ins{Op: k.op, A: 1, B: -2, C: 3})
			want += written(k, [3]int{1, -2, 3})
		}
	}
	if text.Code(code) != want {
		t.Error("long code")
	}
}

func TestPrint(t *testing.T) {
	tests := []struct {
		p    api.Program
		want string
	}{
		{api.Program{Threads: [][]api.Ins{nil}}, "program 0 0 0 0 0\nthread\n"},
		{api.Program{Chans: []int{}, Threads: [][]api.Ins{{}}}, "program 0 0 0 0 0\nthread\n"},
		{api.Program{Vars: 1, Atoms: 2, Locks: 3, Groups: 4, Onces: 2, Threads: [][]api.Ins{{{}}}}, "program 1 2 3 4 2\nthread\nnop\n"},
		{api.Program{Vars: 8, Atoms: 4, Locks: 4, Chans: []int{1, 3, 2, 1}, Groups: 4, Onces: 4, Threads: [][]api.Ins{nil, nil}},
			"program 8 4 4 4 4 1 3 2 1\nthread\nthread\n"},
		{api.Program{Chans: []int{3}, Threads: [][]api.Ins{nil}}, "program 0 0 0 0 0 3\nthread\n"},
		{api.Program{Locks: 1, Threads: [][]api.Ins{
			{{Op: api.Go, A: 1}, {Op: api.Const, A: 3, B: math.MinInt}},
			nil,
			{{Op: api.Lock}, {Op: api.Zero, A: 1, B: 2}},
		}}, "program 0 0 1 0 0\nthread\ngo 1\nconst 3 -9223372036854775808\nthread\nthread\nlock 0\nzero 1 2\n"},
	}
	for _, c := range tests {
		if got := text.Print(c.p); got != c.want {
			t.Errorf("Print(%v) is %q, not %q", c.p, got, c.want)
		}
	}
}

// one is a program of one thread, that has n vars.
func one(n int, code ...api.Ins) api.Program {
	return api.Program{Vars: n, Threads: [][]api.Ins{code}}
}

func TestPrintOfWhatIsNotSound(t *testing.T) {
	tests := []struct {
		p    api.Program
		want api.Errno
	}{
		{api.Program{}, api.ErrLong},
		{api.Program{Threads: make([][]api.Ins, 7)}, api.ErrLong},
		{one(9), api.ErrLong},
		{one(-1), api.ErrLong},
		{one(0, make([]api.Ins, 61)...), api.ErrLong},
		{api.Program{Chans: []int{1, 1, 1, 1, 1}, Threads: [][]api.Ins{nil}}, api.ErrLong},
		{api.Program{Chans: []int{4}, Threads: [][]api.Ins{nil}}, api.ErrThing},
		{api.Program{Chans: []int{0}, Threads: [][]api.Ins{nil}}, api.ErrThing},
		{one(1, api.Ins{Op: 28}), api.ErrIns},
		{one(1, api.Ins{Op: 255}), api.ErrIns},
		{one(1, api.Ins{Op: api.Nop, A: 1}), api.ErrIns},
		{one(1, api.Ins{Op: api.Load, C: 1}), api.ErrIns},
		{one(1, api.Ins{Op: api.Load, B: 1}), api.ErrThing},
		{one(1, api.Ins{Op: api.Print, A: 4}), api.ErrThing},
		{one(1, api.Ins{Op: api.Go, A: 0}), api.ErrThing},
		{one(1, api.Ins{Op: api.Jump, A: 2}), api.ErrThing},
	}
	for _, c := range tests {
		if e := ir.Sound(c.p); e != c.want {
			t.Fatalf("Sound(%v) is %d, not %d", c.p, e, c.want)
		}
		if got := text.Print(c.p); got != "" {
			t.Errorf("Print(%v) is %q", c.p, got)
		}
	}
}

// What lies behind a list's length is not told, and what is handed in stays as it is.
func TestPrintAndCodeTouchNothingElse(t *testing.T) {
	code := []api.Ins{{Op: api.Print, A: 1}, {Op: api.Nop}, {Op: api.Jump, A: 1}, {Op: 255}}
	if got := text.Code(code[:2]); got != "print 1\nnop\n" {
		t.Errorf("Code is %q", got)
	}
	chans := []int{2, 3, 1, 9, 9}
	threads := [][]api.Ins{code[:1], code[1:2], code[3:]}
	p := api.Program{Chans: chans[:2], Threads: threads[:2]}
	for range 2 {
		if got := text.Print(p); got != "program 0 0 0 0 0 2 3\nthread\nprint 1\nthread\nnop\n" {
			t.Errorf("Print is %q", got)
		}
	}
	if code[2] != (api.Ins{Op: api.Jump, A: 1}) || code[3].Op != 255 || chans[2] != 1 || chans[3] != 9 || len(threads[2]) != 1 {
		t.Error("what lies behind was changed")
	}
}
