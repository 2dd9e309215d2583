package text

import (
	"iter"
	"strconv"
	"strings"

	"interlock/api"
	"interlock/ir"
)

// badLine is what reading panics with, if a line is not formed as it must be: the line's number (0: no line tells anything). What is wrong with no line of its own panics with its error.
type badLine int

// caught is what do reads, or what it panicked with as an answer.
func caught(do func() api.Program) (p api.Program, e api.Errno, at int) {
	defer func() {
		switch wrong := recover().(type) {
		case nil:
		case badLine:
			e, at = api.ErrForm, int(wrong)
		case api.Errno:
			e = wrong
		default: // no text leads here: a fault of the program is not to pass for one of the text
			panic(wrong)
		}
	}()
	return do(), api.OK, 0
}

// read is the program that a text tells; it panics if there is none.
func read(s string) api.Program {
	if len(s) > api.MaxText {
		panic(api.ErrLong)
	}
	var r reader
	for n, line := range lines(s) {
		if tells(line) {
			r.at = n
			r.line(strings.Split(line, " "))
		}
	}
	r.must(r.begun)
	if e := ir.Sound(r.Program); e != api.OK {
		panic(e)
	}
	return r.Program
}

// lines are a text's lines without their ends, each with its number, from 1 on.
func lines(s string) iter.Seq2[int, string] {
	return func(yield func(int, string) bool) {
		rest := s
		for n := 1; rest != ""; n++ {
			var line string
			line, rest, _ = strings.Cut(rest, "\n")
			if !yield(n, line) {
				return
			}
		}
	}
}

func tells(line string) bool {
	return line != "" && line[0] != '#'
}

// reader is a program as far as it is read.
type reader struct {
	api.Program
	at    int  // the last line that tells (0: none yet)
	begun bool // its first one is read
}

// must panics, unless the line that is read is as it must be.
func (r *reader) must(is bool) {
	if !is {
		panic(badLine(r.at))
	}
}

func (r *reader) line(words []string) {
	word, rest := words[0], words[1:]
	switch {
	case !r.begun:
		r.program(word, rest)
	case word == threadWord:
		r.must(len(rest) == 0)
		r.Threads = append(r.Threads, nil)
	default:
		r.instruction(word, rest)
	}
}

func (r *reader) program(word string, rest []string) {
	r.must(word == programWord)
	numbers := r.numbers(rest)
	r.must(len(numbers) >= 5)
	r.Vars, r.Atoms, r.Locks, r.Groups, r.Onces = numbers[0], numbers[1], numbers[2], numbers[3], numbers[4]
	r.Chans = append(r.Chans, numbers[5:]...)
	r.begun = true
}

func (r *reader) instruction(word string, rest []string) {
	op, is := ir.Find(word)
	r.must(is)
	_, n := ir.Name(op)
	r.must(len(rest) == n)
	var abc [3]int
	copy(abc[:], r.numbers(rest))
	last := len(r.Threads) - 1
	r.must(last >= 0)
	r.Threads[last] = append(r.Threads[last], api.Ins{Op: op, A: abc[0], B: abc[1], C: abc[2]})
}

func (r *reader) numbers(words []string) []int {
	var all []int
	for _, word := range words {
		n, is := number(word)
		r.must(is)
		all = append(all, n)
	}
	return all
}

// number is what a word tells, and whether it does: a number that is written in another way than Code's tells nothing.
func number(word string) (int, bool) {
	n, err := strconv.Atoi(word)
	return n, err == nil && strconv.Itoa(n) == word
}
