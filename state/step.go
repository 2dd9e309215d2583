package state

import "interlock/api"

// blocked says whether an instruction must wait for what others do.
func (s *State) blocked(i api.Ins) bool {
	switch i.Op {
	case api.Lock:
		return !s.locks[i.A].free()
	case api.RLock:
		return s.locks[i.A].locked
	case api.Send:
		return s.chans[i.A].full()
	case api.Recv:
		return s.chans[i.B].dry()
	case api.Wait:
		return s.groups[i.A] > 0
	case api.Begin:
		return s.onces[i.B] == begun
	}
	return false
}

// do does an instruction of thread t, which is at the next one already, and tells in e of what, with what number, and how it went; false: it is a trap.
func (s *State) do(t *thread, i api.Ins, e *api.Event) bool {
	switch i.Op {
	case api.Const, api.Move, api.Add, api.Sub, api.Mul, api.Less:
		t.reckon(i)
	case api.Jump, api.Zero:
		t.turn(i)
	case api.Load, api.Store, api.Read, api.Write, api.Bump:
		s.touch(t, i, e)
	case api.Print:
		e.Value = t.regs[i.A]
		s.prints = append(s.prints, e.Value)
	case api.Go:
		e.Obj = i.A
		return s.threads[i.A].begin()
	case api.Lock, api.Unlock, api.RLock, api.RUnlock:
		e.Obj = i.A
		return s.locks[i.A].change(i.Op)
	case api.Send, api.Recv, api.Poll, api.Close:
		return s.pass(t, i, e)
	case api.Grow:
		e.Obj, e.Value = i.A, i.B
		return s.groups[i.A].grow(i.B)
	case api.Wait:
		e.Obj = i.A
	case api.Begin:
		e.Obj, e.Mode = i.B, number(s.onces[i.B].begin())
		t.regs[i.A] = e.Mode
	case api.End:
		e.Obj = i.A
		return s.onces[i.A].end()
	}
	return true
}

// touch does what reads or writes a variable or an atom.
func (s *State) touch(t *thread, i api.Ins, e *api.Event) {
	switch i.Op {
	case api.Load:
		e.Obj, e.Value = i.B, s.vars[i.B]
		t.regs[i.A] = e.Value
	case api.Store:
		e.Obj, e.Value = i.A, t.regs[i.B]
		s.vars[i.A] = e.Value
	case api.Read:
		e.Obj, e.Value = i.B, s.atoms[i.B]
		t.regs[i.A] = e.Value
	case api.Write:
		e.Obj, e.Value = i.A, t.regs[i.B]
		s.atoms[i.A] = e.Value
	case api.Bump:
		// The atom grows ahead of the register: A and C may be one, and what C was is added.
		e.Obj, e.Value = i.B, s.atoms[i.B]
		s.atoms[i.B] += t.regs[i.C]
		t.regs[i.A] = e.Value
	}
}

// pass does what passes a number by a channel, or closes it; false: it is closed, and may not be.
func (s *State) pass(t *thread, i api.Ins, e *api.Event) bool {
	switch i.Op {
	case api.Send:
		e.Obj, e.Value = i.A, t.regs[i.B]
		return s.chans[i.A].put(e.Value)
	case api.Recv:
		e.Obj = i.B
		e.Value, e.Mode = s.chans[i.B].take()
		t.regs[i.A] = e.Value
	case api.Poll:
		e.Obj = i.B
		e.Value, e.Mode = s.chans[i.B].take()
		t.regs[i.A] = e.Value
		t.regs[i.C] = number(e.Mode == came)
	case api.Close:
		e.Obj = i.A
		return s.chans[i.A].close()
	}
	return true
}

// number is 1 of what is so, else 0.
func number(is bool) int {
	if is {
		return 1
	}
	return 0
}
