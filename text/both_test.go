package text_test

import (
	"math/big"
	"regexp"
	"strconv"
	"strings"
	"testing"

	"interlock/api"
	"interlock/ir"
	"interlock/text"
)

// back holds a program that is sound to being read as it was printed, and printed as it was read.
func back(t *testing.T, p api.Program) {
	t.Helper()
	s := text.Print(p)
	if s == "" {
		t.Fatalf("%v is not sound: %d", p, ir.Sound(p))
	}
	reads(t, s, p)
	reads(t, strings.TrimSuffix(s, "\n"), p)
	if q, _, _ := text.Parse(s); text.Print(q) != s {
		t.Errorf("%q is printed as %q", s, text.Print(q))
	}
}

// sequence is a row of numbers that hangs on nothing but where it began.
type sequence uint64

// below is the next number, from 0 to n - 1.
func (s *sequence) below(n int) int {
	*s = *s*6364136223846793005 + 1442695040888963407
	return int(uint64(*s) >> 33 % uint64(n))
}

// instruction is one that the program of head may have, with n threads, in code of size instructions.
func (s *sequence) instruction(k kind, n, size int) api.Ins {
	i := api.Ins{Op: k.op}
	for number, to := range []*int{&i.A, &i.B, &i.C}[:k.n] {
		switch {
		case k.op == api.Go:
			*to = 1 + s.below(n-1)
		case k.op == api.Jump || k.op == api.Zero && number == 1:
			*to = s.below(size + 1)
		case (k.op == api.Const || k.op == api.Grow) && number == 1:
			*to = rows[s.below(len(rows))][s.below(3)]
		default:
			*to = s.below(4)
		}
	}
	return i
}

// program is a sound one: all that there may be of everything, so that every number below 4 may be.
func (s *sequence) program(all []kind) api.Program {
	p := api.Program{Vars: 4 + s.below(5), Atoms: 4, Locks: 4, Chans: []int{1 + s.below(3), 1 + s.below(3), 1 + s.below(3), 1 + s.below(3)}, Groups: 4, Onces: 4}
	p.Threads = make([][]api.Ins, 2+s.below(5))
	for k := range p.Threads {
		code := make([]api.Ins, s.below(61))
		for at := range code {
			code[at] = s.instruction(all[s.below(len(all))], len(p.Threads), len(code))
		}
		p.Threads[k] = code
	}
	return p
}

func TestThereAndBack(t *testing.T) {
	all := kinds(t)
	s := sequence(1)
	for range 500 {
		back(t, s.program(all))
	}
	for vars := range 9 {
		for others := range 5 {
			for chans := range 5 {
				p := api.Program{Vars: vars, Atoms: others, Locks: 4 - others, Chans: []int{1, 3, 2, 1}[:chans], Groups: others, Onces: (others + 1) % 5}
				for len(p.Threads) < 6 {
					p.Threads = append(p.Threads, make([]api.Ins, 10*len(p.Threads)))
					back(t, p)
				}
			}
		}
	}
}

// The longest text that is printed is one that can be read.
func TestLongestThereAndBack(t *testing.T) {
	p := api.Program{Vars: 8, Atoms: 4, Locks: 4, Chans: []int{3, 3, 3, 3}, Groups: 4, Onces: 4}
	for range api.MaxThreads {
		var code []api.Ins
		for range api.MaxCode {
			code = append(code, api.Ins{Op: api.Const, A: 3, B: -1 << 63})
		}
		p.Threads = append(p.Threads, code)
	}
	if n := len(text.Print(p)); n < 10000 || n > api.MaxText {
		t.Errorf("%d bytes", n)
	}
	back(t, p)
}

// What lines must be, as the chapter says it; how great numbers may be is asked beside it.
const (
	number = ` (0|-?[1-9][0-9]*)`
	first  = `\Aprogram(` + number + `){5,}\z`
)

// lineForm is what a line that tells, behind the first, must be: a thread's, or an instruction's.
func lineForm(t testing.TB) (thread, instruction *regexp.Regexp) {
	t.Helper()
	var forms []string
	for _, k := range kinds(t) {
		forms = append(forms, k.name+strings.Repeat(number, k.n))
	}
	return regexp.MustCompile(`\Athread\z`), regexp.MustCompile(`\A(` + strings.Join(forms, "|") + `)\z`)
}

// reading is Parse over again, by other means.
type reading struct {
	first, thread, instruction *regexp.Regexp
	ops                        map[string]uint8
}

func newReading(t testing.TB) reading {
	t.Helper()
	thread, instruction := lineForm(t)
	ops := map[string]uint8{}
	for _, k := range kinds(t) {
		ops[k.name] = k.op
	}
	return reading{regexp.MustCompile(first), thread, instruction, ops}
}

// small says whether the numbers of a line that is formed well are from -2^63 to 2^63 - 1, and which they are.
func small(line string) ([]int, bool) {
	var all []int
	for _, w := range strings.Split(line, " ")[1:] {
		n, ok := new(big.Int).SetString(w, 10)
		if !ok || !n.IsInt64() {
			return nil, false
		}
		all = append(all, int(n.Int64()))
	}
	return all, true
}

func (r reading) parse(s string) (api.Program, api.Errno, int) {
	var p api.Program
	if len(s) > 20000 {
		return p, 3, 0
	}
	began := false
	for k, line := range strings.Split(s, "\n") {
		if line == "" || strings.HasPrefix(line, "#") {
			continue
		}
		numbers, ok := small(line)
		switch {
		case !began && r.first.MatchString(line) && ok:
			began = true
			p = api.Program{Vars: numbers[0], Atoms: numbers[1], Locks: numbers[2], Groups: numbers[3], Onces: numbers[4], Chans: numbers[5:]}
		case began && r.thread.MatchString(line):
			p.Threads = append(p.Threads, []api.Ins{})
		case began && len(p.Threads) > 0 && r.instruction.MatchString(line) && ok:
			abc := append(numbers, 0, 0, 0)
			last := &p.Threads[len(p.Threads)-1]
			*last = append(*last, api.Ins{Op: r.ops[strings.Split(line, " ")[0]], A: abc[0], B: abc[1], C: abc[2]})
		default:
			return api.Program{}, 30, k + 1
		}
	}
	if !began {
		return api.Program{}, 30, 0
	}
	if e := ir.Sound(p); e != api.OK {
		return api.Program{}, e, 0
	}
	return p, 0, 0
}

// agrees holds Parse to the other way of reading.
func (r reading) agrees(t *testing.T, s string) {
	t.Helper()
	p, e, at := text.Parse(s)
	q, f, line := r.parse(s)
	if e != f || at != line || !same(p, q) {
		t.Errorf("Parse(%s) is %v, %d, %d, not %v, %d, %d", short(s), p, e, at, q, f, line)
	}
}

func TestParseAllRowsOfLines(t *testing.T) {
	r := newReading(t)
	lines := []string{
		"", "#", "# thread", " ", "program 1 0 0 0 0", "program 1 0 0 0 0 2", "program 1 0 0 0", "program 9 0 0 0 0", "program", "thread", "thread 0", " thread",
		"nop", "nop 0", "load 1 0", "load 1", "load 1 9", "recv 1 0", "jump 1", "go 1", "?", "const 0 -9223372036854775808", "const 0 9223372036854775808",
	}
	for _, a := range lines {
		r.agrees(t, a)
		for _, b := range lines {
			for _, c := range lines {
				r.agrees(t, a+"\n"+b+"\n"+c)
				r.agrees(t, "program 1 0 0 0 0 3\n"+a+"\n"+b+"\n"+c+"\n")
				r.agrees(t, "#\nprogram 1 0 0 0 0 3\nthread\n"+a+"\n"+b+"\n"+c)
			}
		}
	}
}

// Each byte there is, at each place: put in, and put for what was there; and each byte left out.
func TestParseEachByte(t *testing.T) {
	r := newReading(t)
	s := "program 1 0 0 0 0 2\n#\nthread\nconst 1 -10\n\nload 1 0\nthread\npoll 0 0 1"
	for at := range len(s) + 1 {
		for b := range 256 {
			c := string([]byte{byte(b)})
			r.agrees(t, s[:at]+c+s[at:])
			if at < len(s) {
				r.agrees(t, s[:at]+c+s[at+1:])
			}
		}
		if at < len(s) {
			r.agrees(t, s[:at]+s[at+1:])
		}
		r.agrees(t, s[:at])
		r.agrees(t, s[at:])
	}
}

// Texts of pieces that make no sense: no call panics, each ends, and says what the other way of reading says.
func TestParseAnyText(t *testing.T) {
	r := newReading(t)
	pieces := []string{
		"program", " 0 0 0 0 0", " 1", " -1", " ", "\n", "\n", "thread", "\nthread\n", "nop\n", "load 1 0\n", "const 0", " 9223372036854775807", " 9223372036854775808",
		"#", "\r", "\x00", "\xff", "\u00fc", "-", "+", "?", "0", "program 1 0 0 0 0\n", "program 1 1 1 1 1 1\nthread\n",
	}
	s := sequence(2)
	for range 20000 {
		var b strings.Builder
		for range s.below(12) {
			b.WriteString(pieces[s.below(len(pieces))])
		}
		r.agrees(t, b.String())
	}
	for n := range 40 {
		r.agrees(t, strings.Repeat(pieces[n%len(pieces)], 800*(n%25)))
	}
}

func TestParseAnswersNewMemory(t *testing.T) {
	s := "program 0 0 0 0 0 1 2 3\nthread\nnop\nthread\nprint 1\nprint 2\nthread\nnop\n"
	p, _, _ := text.Parse(s)
	q, _, _ := text.Parse(s)
	want := text.Print(q)
	for k := range p.Chans {
		p.Chans[k] = 9
	}
	for k := range p.Threads {
		for at := range p.Threads[k] {
			p.Threads[k][at] = api.Ins{Op: 255}
		}
	}
	if text.Print(q) != want {
		t.Error("two answers share memory")
	}
	// Each list can grow without another's seeing it.
	for k := range q.Threads {
		n := len(q.Threads[k])
		full := append(q.Threads[k], make([]api.Ins, cap(q.Threads[k])-n)...)
		for at := n; at < len(full); at++ {
			full[at] = api.Ins{Op: 255}
		}
		_ = append(q.Threads[k], api.Ins{Op: 255})
	}
	_ = append(q.Chans, 9)
	if text.Print(q) != want {
		t.Error("two lists of one answer share memory")
	}
	if p, e, at := text.Parse(s); e != api.OK || at != 0 || text.Print(p) != want {
		t.Error("what was read ahead is kept")
	}
}

// What was wrong once is not told of the next text.
func TestParseKeepsNothing(t *testing.T) {
	for n := range 3 {
		refused(t, "program 1 0 0 0 0 1\nthread\nnop\nx"+strconv.Itoa(n), api.ErrForm, 4)
		refused(t, "", api.ErrForm, 0)
		refused(t, "thread\n", api.ErrForm, 1)
		refused(t, "program 0 0 0 0 0\n", api.ErrLong, 0)
		reads(t, "program 0 0 0 0 0\nthread\n", api.Program{Threads: [][]api.Ins{nil}})
	}
}
