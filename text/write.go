package text

import (
	"strconv"
	"strings"

	"interlock/api"
	"interlock/ir"
)

// writer gathers lines.
type writer struct {
	strings.Builder
}

// line adds a line: a word, and numbers, each behind a blank.
func (w *writer) line(word string, numbers ...int) {
	w.WriteString(word)
	for _, n := range numbers {
		w.WriteByte(' ')
		w.WriteString(strconv.Itoa(n))
	}
	w.WriteByte('\n')
}

func (w *writer) program(p api.Program) {
	counts := []int{p.Vars, p.Atoms, p.Locks, p.Groups, p.Onces}
	w.line(programWord, append(counts, p.Chans...)...)
	for _, code := range p.Threads {
		w.line(threadWord)
		w.code(code)
	}
}

func (w *writer) code(code []api.Ins) {
	for _, i := range code {
		w.instruction(i)
	}
}

func (w *writer) instruction(i api.Ins) {
	if i.Op >= api.Ops {
		w.line(unknownWord)
		return
	}
	name, n := ir.Name(i.Op)
	abc := [3]int{i.A, i.B, i.C}
	w.line(name, abc[:n]...)
}
