package ir

import "interlock/api"

// Sound says what is wrong with a program (OK: nothing).
func Sound(p api.Program) api.Errno {
	return first([]func() api.Errno{
		func() api.Errno { return unless(sizes(p), api.ErrLong) },
		func() api.Errno { return unless(capacities(p.Chans), api.ErrThing) },
		func() api.Errno { return threads(p) },
	})
}

// first is the first error that a row of questions finds, asked in the order in which the chapter names errors.
func first(row []func() api.Errno) api.Errno {
	for _, ask := range row {
		if e := ask(); e != api.OK {
			return e
		}
	}
	return api.OK
}

// unless is e, if what must be so is not.
func unless(is bool, e api.Errno) api.Errno {
	if is {
		return api.OK
	}
	return e
}

// within says whether n is from least to most.
func within(n, least, most int) bool {
	return least <= n && n <= most
}

// sizes says whether no more of anything is there than may be.
func sizes(p api.Program) bool {
	for _, code := range p.Threads {
		if len(code) > api.MaxCode {
			return false
		}
	}
	return within(p.Vars, 0, api.MaxVars) &&
		within(p.Atoms, 0, api.MaxAtoms) &&
		within(p.Locks, 0, api.MaxLocks) &&
		within(p.Groups, 0, api.MaxGroups) &&
		within(p.Onces, 0, api.MaxOnces) &&
		within(len(p.Chans), 0, api.MaxChans) &&
		within(len(p.Threads), 1, api.MaxThreads)
}

// capacities says whether each channel holds as much as one may.
func capacities(chans []int) bool {
	for _, c := range chans {
		if !within(c, 1, api.MaxCap) {
			return false
		}
	}
	return true
}

// threads is what is wrong first, thread by thread, instruction by instruction.
func threads(p api.Program) api.Errno {
	for _, code := range p.Threads {
		can := allowed(p, len(code))
		for _, i := range code {
			e := first([]func() api.Errno{
				func() api.Errno { return unless(known(i), api.ErrIns) },
				func() api.Errno { return unless(fits(i, can), api.ErrThing) },
			})
			if e != api.OK {
				return e
			}
		}
	}
	return api.OK
}

// known says whether the table has an instruction, and a word for each of its numbers that is not 0.
func known(i api.Ins) bool {
	abc := of(i.Op).abc
	for k, n := range numbers(i) {
		if abc[k] == none && n != 0 {
			return false
		}
	}
	return i.Op < api.Ops
}

// fits says whether each number of an instruction that is known can be what its word says.
func fits(i api.Ins, can [words]func(int) bool) bool {
	abc := of(i.Op).abc
	for k, n := range numbers(i) {
		if !can[abc[k]](n) {
			return false
		}
	}
	return true
}

// allowed asks, word by word, whether a number can be that, in a thread of so many instructions.
func allowed(p api.Program, length int) [words]func(int) bool {
	from := func(least, end int) func(int) bool {
		return func(n int) bool { return within(n, least, end-1) }
	}
	all := func(int) bool { return true }
	return [words]func(int) bool{
		none:     from(0, 1),
		sets:     from(0, api.Regs),
		uses:     from(0, api.Regs),
		number:   all,
		place:    from(0, length+1), // behind the last is a place too
		thread:   from(1, len(p.Threads)),
		variable: from(0, p.Vars),
		atom:     from(0, p.Atoms),
		lock:     from(0, p.Locks),
		channel:  from(0, len(p.Chans)),
		group:    from(0, p.Groups),
		once:     from(0, p.Onces),
	}
}
