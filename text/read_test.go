package text_test

import (
	"math"
	"reflect"
	"strconv"
	"strings"
	"testing"

	"interlock/api"
	"interlock/ir"
	"interlock/text"
)

const head = "program 8 4 4 4 4 1 2 3 1\n"

// zero says whether a program has nothing.
func zero(p api.Program) bool {
	return p.Vars == 0 && p.Atoms == 0 && p.Locks == 0 && p.Groups == 0 && p.Onces == 0 && len(p.Chans) == 0 && len(p.Threads) == 0
}

// same says whether two programs are, whether lists are nil or empty.
func same(p, q api.Program) bool {
	if len(p.Threads) != len(q.Threads) || len(p.Chans) != len(q.Chans) {
		return false
	}
	for k := range p.Chans {
		if p.Chans[k] != q.Chans[k] {
			return false
		}
	}
	for k := range p.Threads {
		if len(p.Threads[k]) != len(q.Threads[k]) || len(p.Threads[k]) > 0 && !reflect.DeepEqual(p.Threads[k], q.Threads[k]) {
			return false
		}
	}
	return p.Vars == q.Vars && p.Atoms == q.Atoms && p.Locks == q.Locks && p.Groups == q.Groups && p.Onces == q.Onces
}

// short keeps what is told of a text that fails to one row.
func short(s string) string {
	if len(s) > 200 {
		return strconv.Quote(s[:200]) + ".."
	}
	return strconv.Quote(s)
}

// refused holds Parse to an error and a line, and to answering nothing else.
func refused(t *testing.T, s string, e api.Errno, line int) {
	t.Helper()
	p, got, at := text.Parse(s)
	if got != e || at != line || !zero(p) {
		t.Errorf("Parse(%s) is %v, %d, %d, not %d, %d", short(s), p, got, at, e, line)
	}
}

// reads holds Parse to a program.
func reads(t *testing.T, s string, want api.Program) {
	t.Helper()
	p, e, at := text.Parse(s)
	if e != api.OK || at != 0 || !same(p, want) {
		t.Errorf("Parse(%s) is %v, %d, %d, not %v", short(s), p, e, at, want)
	}
}

func TestParse(t *testing.T) {
	reads(t, "program 0 0 0 0 0\nthread\n", api.Program{Threads: [][]api.Ins{nil}})
	reads(t, "program 1 2 3 4 0\nthread\nthread\n", api.Program{Vars: 1, Atoms: 2, Locks: 3, Groups: 4, Threads: [][]api.Ins{nil, nil}})
	reads(t, "program 8 4 4 3 2 1 3 2 1\nthread\n", api.Program{Vars: 8, Atoms: 4, Locks: 4, Groups: 3, Onces: 2, Chans: []int{1, 3, 2, 1}, Threads: [][]api.Ins{nil}})
	reads(t, "program 0 0 0 0 0 3\nthread\n", api.Program{Chans: []int{3}, Threads: [][]api.Ins{nil}})
	reads(t, "program 1 0 0 0 0\nthread\ngo 1\nstore 0 3\nthread\nthread\nload 2 0\nadd 1 2 3\nnop\n", api.Program{Vars: 1, Threads: [][]api.Ins{
		{{Op: api.Go, A: 1}, {Op: api.Store, A: 0, B: 3}},
		nil,
		{{Op: api.Load, A: 2, B: 0}, {Op: api.Add, A: 1, B: 2, C: 3}, {}},
	}})
}

// legal are numbers for an instruction that the program of head, with three threads, may have.
func legal(k kind) []string {
	return []string{"1", "1", "1"}[:k.n]
}

func TestParseEachInstruction(t *testing.T) {
	for _, k := range kinds(t) {
		ahead := head + "thread\nthread\nthread\nnop\n"
		line := strings.Join(append([]string{k.name}, legal(k)...), " ")
		i := api.Ins{Op: k.op}
		if k.n > 0 {
			i.A = 1
		}
		if k.n > 1 {
			i.B = 1
		}
		if k.n > 2 {
			i.C = 1
		}
		want := api.Program{Vars: 8, Atoms: 4, Locks: 4, Chans: []int{1, 2, 3, 1}, Groups: 4, Onces: 4, Threads: [][]api.Ins{nil, nil, {{}, i}}}
		reads(t, ahead+line, want)
		reads(t, ahead+line+"\n", want)
		refused(t, ahead+line+" 1", api.ErrForm, 6)
		refused(t, ahead+line+" 0\n", api.ErrForm, 6)
		refused(t, ahead+line+" x\n", api.ErrForm, 6)
		if k.n > 0 {
			fewer := strings.TrimSuffix(line, " 1")
			refused(t, ahead+fewer, api.ErrForm, 6)
			refused(t, ahead+fewer+"\n", api.ErrForm, 6)
			refused(t, ahead+fewer+" \n", api.ErrForm, 6)
			refused(t, ahead+fewer+" x\n", api.ErrForm, 6)
			refused(t, ahead+k.name+"\n", api.ErrForm, 6)
		}
	}
}

// Which number is which: unlike ones come back at their places.
func TestParseNumbersInOrder(t *testing.T) {
	reads(t, "program 1 2 3 4 0 2 3\nthread\nadd 1 2 3\npoll 3 1 2\nconst 2 7\ngrow 3 -7\nbump 1 0 2\n", api.Program{
		Vars: 1, Atoms: 2, Locks: 3, Groups: 4, Chans: []int{2, 3},
		Threads: [][]api.Ins{{
			{Op: api.Add, A: 1, B: 2, C: 3}, {Op: api.Poll, A: 3, B: 1, C: 2}, {Op: api.Const, A: 2, B: 7}, {Op: api.Grow, A: 3, B: -7}, {Op: api.Bump, A: 1, B: 0, C: 2},
		}},
	})
}

func TestParseNumbers(t *testing.T) {
	for _, n := range []int{0, 1, -1, 9, 10, -10, 99, 100, 101, 1<<31 - 1, 1 << 31, 1<<32 + 1, 1 << 53, -1 << 53, math.MaxInt - 1, math.MaxInt, math.MinInt + 1, math.MinInt} {
		reads(t, "program 0 0 0 0 0\nthread\nconst 0 "+strconv.FormatInt(int64(n), 10)+"\n", one(0, api.Ins{Op: api.Const, B: n}))
	}
	wrong := []string{
		"9223372036854775808", "-9223372036854775809", "9223372036854775810", "18446744073709551615", "18446744073709551616", "-18446744073709551616", "99999999999999999999",
		"00", "01", "007", "-0", "-00", "-01", "+0", "+1", "+", "-", "--1", "-+1", "+-1", "1-", "1+", "", "x", "1x", "x1", "0x1", "0b1", "0o7", "1_0", "1e3", "1.0", ".", "1,0",
		"\u0661", "\uff11", "1\u00a0", "1\t", "\t1", "1\r", "1\v", "1\x00", "\x001", "1\x80", "\xff", "?", "#", "#1", "1#", "nop", "inf", "true",
		strings.Repeat("0", 1000), strings.Repeat("1", 19000), "-" + strings.Repeat("1", 19000), strings.Repeat("0", 19000) + "1",
	}
	for _, w := range wrong {
		refused(t, "program 0 0 0 0 0\nthread\nconst 0 "+w+"\n", api.ErrForm, 3)
		refused(t, "program 0 0 0 0 0\nthread\nconst 0 "+w, api.ErrForm, 3)
		refused(t, "program 0 0 0 0 0\nthread\nconst "+w+" 0\n", api.ErrForm, 3)
		for k := range 7 {
			numbers := []string{"0", "0", "0", "0", "0", "1", "1"}
			numbers[k] = w
			refused(t, "program "+strings.Join(numbers, " ")+"\nthread\n", api.ErrForm, 1)
		}
	}
}

func TestParseLongTexts(t *testing.T) {
	good := "program 0 0 0 0 0\nthread\nnop\n"
	pad := func(s string, n int) string { return s + "#" + strings.Repeat("x", n-len(s)-1) }
	want := one(0, api.Ins{})
	reads(t, pad(good, api.MaxText), want)
	reads(t, pad(good, api.MaxText-1), want)
	reads(t, pad(good, api.MaxText-1)+"\n", want)
	reads(t, good+strings.Repeat("\n", api.MaxText-len(good)), want)
	reads(t, strings.Repeat("\n", api.MaxText-len(good))+good, want)
	refused(t, pad(good, api.MaxText+1), api.ErrLong, 0)
	refused(t, pad(good, api.MaxText)+"\n", api.ErrLong, 0)
	refused(t, strings.Repeat("\n", api.MaxText+1), api.ErrLong, 0)
	refused(t, strings.Repeat("\n", api.MaxText), api.ErrForm, 0)
	refused(t, strings.Repeat("x", api.MaxText), api.ErrForm, 1)
	refused(t, strings.Repeat("x", api.MaxText+1), api.ErrLong, 0)
	refused(t, strings.Repeat("x", 1<<22), api.ErrLong, 0)
	refused(t, strings.Repeat("\u00fc", api.MaxText/2)+"x", api.ErrLong, 0) // bytes are counted
	refused(t, pad(good+"nop 1\n", api.MaxText+1), api.ErrLong, 0)
	refused(t, pad("", api.MaxText), api.ErrForm, 0)
	refused(t, strings.Repeat("\n", api.MaxText-1)+"x", api.ErrForm, api.MaxText)
}

func TestParseLinesThatTellNothing(t *testing.T) {
	want := api.Program{Vars: 1, Threads: [][]api.Ins{{{Op: api.Load, A: 1}}, {{}}}}
	told := []string{"program 1 0 0 0 0", "thread", "load 1 0", "thread", "nop"}
	for _, nothing := range []string{"", "\n", "#\n", "# x\n", "#program 0\n", "##\n", "#\r\n", "#\xff\x00\t \n", "\n\n#thread\n\n"} {
		for at := range len(told) + 1 {
			s := strings.Join(told[:at], "\n")
			if at > 0 {
				s += "\n"
			}
			s += nothing + strings.Join(told[at:], "\n")
			reads(t, s, want)
			if at < len(told) {
				reads(t, s+"\n", want)
				reads(t, s+"\n#", want)
			}
		}
		reads(t, nothing+strings.Join(told, "\n"+nothing)+"\n"+nothing, want)
		refused(t, nothing, api.ErrForm, 0)
		refused(t, strings.TrimSuffix(nothing, "\n"), api.ErrForm, 0)
	}
	refused(t, "", api.ErrForm, 0)
}

func TestParseLinesThatHaveBlanks(t *testing.T) {
	told := []string{"program 1 0 0 0 0", "thread", "load 1 0", "zero 1 2", "nop"}
	for k, line := range told {
		var wrong []string
		wrong = append(wrong, " "+line, line+" ", "  "+line, line+"  ", " ", "  ", " #", "\t", line+" #", line+"#")
		for at := range line {
			if line[at] == ' ' {
				wrong = append(wrong, line[:at]+" "+line[at:], line[:at]+"\t"+line[at+1:], line[:at]+"\u00a0"+line[at+1:], line[:at]+line[at+1:], line[:at]+","+line[at+1:])
			}
		}
		for _, w := range wrong {
			lines := append([]string(nil), told...)
			lines[k] = w
			refused(t, strings.Join(lines, "\n"), api.ErrForm, k+1)
			refused(t, strings.Join(lines, "\n")+"\n", api.ErrForm, k+1)
			lines = append(append(append([]string(nil), told[:k]...), "#", w), told[k:]...)
			refused(t, strings.Join(lines, "\n"), api.ErrForm, k+2)
		}
	}
}

func TestParseOtherBytes(t *testing.T) {
	told := []string{"program 1 0 0 0 0 2", "thread", "load 1 0", "nop"}
	for k, line := range told {
		for _, b := range []string{"\r", "\t", "\x00", "\x0b", "\x7f", "\x80", "\xff", "\u00fc", "\u2028", "\ufeff", "\u0085", ";"} {
			for at := range len(line) + 1 {
				lines := append([]string(nil), told...)
				lines[k] = line[:at] + b + line[at:]
				refused(t, strings.Join(lines, "\n")+"\n", api.ErrForm, k+1)
			}
		}
	}
	refused(t, "program 1 0 0 0 0\r\nthread\r\n", api.ErrForm, 1)
	refused(t, "program 1 0 0 0 0\n\r\nthread\n", api.ErrForm, 2)
	refused(t, "program 1 0 0 0 0\rthread\r", api.ErrForm, 1)
}

func TestParseFirstLine(t *testing.T) {
	for _, first := range []string{
		"thread", "nop", "load 1 0", "x", "?", "-", "0", "0 0 0 0 0", "Program 0 0 0 0 0", "PROGRAM 0 0 0 0 0", "programs 0 0 0 0 0", "progra 0 0 0 0 0", "program0 0 0 0 0",
		"program", "program 0", "program 0 0", "program 0 0 0", "program 0 0 0 0", "program 0 0 0 0 x", "program 0 0 0 0 0 x", "program program 0 0 0 0 0", "program 0 0 0 0 0 thread",
	} {
		refused(t, first, api.ErrForm, 1)
		refused(t, first+"\nthread\n", api.ErrForm, 1)
		refused(t, "\n# program 0 0 0 0 0\n"+first+"\nprogram 0 0 0 0 0\nthread\n", api.ErrForm, 3)
	}
}

func TestParseOtherLines(t *testing.T) {
	for _, line := range []string{
		"program", "program 0 0 0 0 0", "program 1 0 0 0 0 2", "thread 0", "thread x", "thread thread", "thread nop", "threads", "Thread", "THREAD", "threa", "thread0",
		"?", "x", "0", "27", "Nop", "NOP", "nopp", "no", "noop", "nop nop", "load", "load a b", "load 1 0 2", "variable 0", "nop\x00", "-", "told 0", "back", "error 30 1",
	} {
		refused(t, "program 1 0 0 0 0\n"+line+"\n", api.ErrForm, 2)
		refused(t, "program 1 0 0 0 0\nthread\n"+line+"\n", api.ErrForm, 3)
		refused(t, "program 1 0 0 0 0\nthread\nnop\n"+line, api.ErrForm, 4)
		refused(t, "program 1 0 0 0 0\n#\nthread\n\n"+line+"\nthread\nnop\n", api.ErrForm, 5)
	}
}

func TestParseInstructionAheadOfThreads(t *testing.T) {
	for _, k := range kinds(t) {
		line := strings.Join(append([]string{k.name}, legal(k)...), " ")
		refused(t, head+line, api.ErrForm, 2)
		refused(t, head+"\n"+line+"\nthread\n", api.ErrForm, 3)
	}
}

func TestParseFirstOfMany(t *testing.T) {
	refused(t, "x\ny\nz\n", api.ErrForm, 1)
	refused(t, "\nx\ny\n", api.ErrForm, 2)
	refused(t, "program 0 0 0 0 0\nthread 1\nnop 1\n?\n", api.ErrForm, 2)
	refused(t, "program 0 0 0 0 0\nthread\nnop 1\n?\nprogram\n", api.ErrForm, 3)
	refused(t, "program 0 0 0 0 0\nthread\nnop\n?\nprogram\n", api.ErrForm, 4)
	refused(t, "program 0 0 0 0 0\nthread\nnop\nnop\nprogram\n", api.ErrForm, 5)
	// What is not sound is asked behind what is not formed.
	refused(t, "program 9 0 0 0 0 7\nthread\nload 5 5\nnop x\n", api.ErrForm, 4)
	refused(t, "program 9 0 0 0 0\n"+strings.Repeat("thread\n", 50)+"load\n", api.ErrForm, 52)
}

func TestParseWhatIsNotSound(t *testing.T) {
	code := func(n int) string { return "thread\n" + strings.Repeat("nop\n", n) }
	for s, e := range map[string]api.Errno{
		"program 0 0 0 0 0":                                                api.ErrLong, // no thread
		"program 0 0 0 0 0\n":                                              api.ErrLong,
		"program 9 0 0 0 0\nthread\n":                                      api.ErrLong,
		"program 0 5 0 0 0\nthread\n":                                      api.ErrLong,
		"program 0 0 5 0 0\nthread\n":                                      api.ErrLong,
		"program 0 0 0 5 0\nthread\n":                                      api.ErrLong,
		"program 0 0 0 0 5\nthread\n":                                      api.ErrLong,
		"program -1 0 0 0 0\nthread\n":                                     api.ErrLong,
		"program 9223372036854775807 0 0 0 -9223372036854775808\nthread\n": api.ErrLong,
		"program 0 0 0 0 0 1 1 1 1 1\nthread\n":                            api.ErrLong,
		"program 0 0 0 0 0 0\nthread\n":                                    api.ErrThing,
		"program 0 0 0 0 0 4\nthread\n":                                    api.ErrThing,
		"program 0 0 0 0 0 1 1 1 -1\nthread\n":                             api.ErrThing,
		"program 0 0 0 0 0\n" + strings.Repeat("thread\n", 7):              api.ErrLong,
		"program 0 0 0 0 0\n" + strings.Repeat("thread\n", 2800):           api.ErrLong,
		"program 0 0 0 0 0\n" + code(61):                                   api.ErrLong,
		"program 0 0 0 0 0\n" + code(1) + code(61):                         api.ErrLong,
		"program 0 0 0 0 0\n" + code(4900):                                 api.ErrLong,
		"program 0 0 0 0 0\nthread\nload 0 0\n":                            api.ErrThing,
		"program 1 0 0 0 0\nthread\nload 4 0\n":                            api.ErrThing,
		"program 1 0 0 0 0\nthread\nload -1 0\n":                           api.ErrThing,
		"program 1 0 0 0 0\nthread\ngo 0\n":                                api.ErrThing,
		"program 1 0 0 0 0\nthread\ngo 1\n":                                api.ErrThing,
		"program 1 0 0 0 0\nthread\njump 2\n":                              api.ErrThing,
		"program 0 0 0 0 0" + strings.Repeat(" 1", 9000) + "\nthread\n":    api.ErrLong,
	} {
		refused(t, s, e, 0)
	}
	reads(t, "program 0 0 0 0 0\n"+code(60), one(0, make([]api.Ins, 60)...))
	reads(t, "program 0 0 0 0 0\n"+strings.Repeat("thread\n", 6), api.Program{Threads: make([][]api.Ins, 6)})
	reads(t, "program 0 0 0 0 0\nthread\njump 1\n", one(0, api.Ins{Op: api.Jump, A: 1}))
}

// A text can not tell what ErrIns is of: each Op that it names there is, and has no number but its own.
func TestParseNeverErrIns(t *testing.T) {
	for _, k := range kinds(t) {
		for _, row := range rows {
			s := head + "thread\nthread\n" + written(k, row)
			p, e, at := text.Parse(s)
			abc := [3]int{}
			copy(abc[:], row[:k.n])
			i := api.Ins{Op: k.op, A: abc[0], B: abc[1], C: abc[2]}
			q := api.Program{Vars: 8, Atoms: 4, Locks: 4, Chans: []int{1, 2, 3, 1}, Groups: 4, Onces: 4, Threads: [][]api.Ins{nil, {i}}}
			want := ir.Sound(q)
			if e == api.ErrIns || e != want || at != 0 || want == api.OK && !same(p, q) || want != api.OK && !zero(p) {
				t.Errorf("Parse(%s) is %v, %d, %d, not %d", short(s), p, e, at, want)
			}
		}
	}
}
