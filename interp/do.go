package interp

import (
	"taciturn/api"
	"taciturn/code"
	"taciturn/room"
	"taciturn/word"
)

// none is the ref that names no array.
const none = 0

// do does an instruction of the topmost frame, and answers the status with which
// it ends the machine, or running.
func (m *Machine) do(i api.Instr) int {
	f := m.top
	f.pc++
	switch i.Op {
	case code.Push, code.Buf:
		f.push(int32(i.A))
	case code.Null:
		f.push(none)
	case code.Load:
		f.push(*f.local(i.A))
	case code.Store:
		*f.local(i.A) = f.pop()
	case code.Pop:
		f.pop()
	case code.Dup:
		n := f.pop()
		f.push(n)
		f.push(n)
	case code.GetF:
		n, _ := m.room.Field(f.applet, i.A)
		f.push(n)
	case code.PutF:
		m.room.SetField(f.applet, i.A, f.pop())
	case code.Jump:
		f.pc = i.A
	case code.JumpIf:
		if f.pop() != 0 {
			f.pc = i.A
		}
	case code.Neg, code.Not, code.IsNull:
		f.push(ofOne(i.Op, f.pop()))
	case code.Pick:
		all := f.take(3)
		f.push(word.Pick(all[0], all[1], all[2]))
	case code.Call:
		return m.call(f.applet, i.A)
	case code.CallX:
		return m.callOther(f.applet, i.A)
	case code.Ret:
		return m.ret()
	case code.Div, code.Rem, code.New, code.Len, code.Get, code.Same:
		n, status := m.serve(i)
		f.push(n)
		return status
	case code.Put, code.Copy, code.Send:
		_, status := m.serve(i)
		return status
	default:
		all := f.take(2)
		n, ok := ofTwo(i.Op, all[0], all[1])
		if !ok {
			return api.NotNow
		}
		f.push(n)
	}
	return running
}

// ofOne answers what an instruction makes of one value.
func ofOne(op int, a int32) int32 {
	switch op {
	case code.Neg:
		return word.Neg(a)
	case code.Not:
		return word.Not(a)
	}
	return word.Eq(a, none)
}

// ofTwo answers what an instruction makes of two values, whatever they are; false
// of one that makes nothing of two.
func ofTwo(op int, a, b int32) (int32, bool) {
	switch op {
	case code.Add:
		return word.Add(a, b), true
	case code.Sub:
		return word.Sub(a, b), true
	case code.Mul:
		return word.Mul(a, b), true
	case code.And:
		return word.And(a, b), true
	case code.Or:
		return word.Or(a, b), true
	case code.Xor:
		return word.Xor(a, b), true
	case code.Shl:
		return word.Shl(a, b), true
	case code.Shr:
		return word.Shr(a, b), true
	case code.Sar:
		return word.Sar(a, b), true
	case code.Eq:
		return word.Eq(a, b), true
	case code.Lt:
		return word.Lt(a, b), true
	case code.Below:
		return word.Below(a, b), true
	}
	return 0, false
}

// serve has the room do an instruction of the topmost frame. There Fine is how one
// ends well, here how a machine ends: it is told as running.
func (m *Machine) serve(i api.Instr) (int32, int) {
	args := m.top.take(room.Serves(i.Op))
	n, status := m.room.Serve(m.trace, m.top.applet, i.Op, i.A, i.B, args)
	if status != api.Fine {
		return 0, status
	}
	return n, running
}

// call begins a method; its params are the caller's topmost values.
func (m *Machine) call(applet, method int) int {
	if m.Depth() >= api.MaxDepth {
		return api.Deep
	}
	caller := m.top
	m.push(applet, method)
	copy(m.top.locals, caller.take(len(m.top.code.Params)))
	return running
}

// callOther begins the method that an applet's import leads to.
func (m *Machine) callOther(applet, k int) int {
	to, method, ok := m.room.Resolve(applet, k)
	if !ok {
		return api.NoLink
	}
	return m.call(to, method)
}

// ret ends the topmost frame, and with the first one the machine. A result is
// handed to the caller.
func (m *Machine) ret() int {
	f := m.top
	m.top = f.caller
	if m.top == nil {
		return api.Fine
	}
	if f.code.Result != 0 {
		m.top.push(f.pop())
	}
	return running
}
