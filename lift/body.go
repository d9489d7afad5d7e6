package lift

import (
	"taciturn/api"
	"taciturn/code"
	"taciturn/ir"
)

// body is a method that verify takes, and the stack of kinds at each of its pcs.
type body struct {
	image  api.Image
	method api.Method
	states [][]int
}

// stacked answers the register of what stands at a height of the stack.
func stacked(height int) int {
	return api.MaxLocals + height
}

// nodes answers the nodes of a pc that is reached: a Tick, and what its instruction
// does, if it does anything. Where one goes to is told as a pc.
func (b body) nodes(pc int) []ir.Node {
	all := []ir.Node{ir.Tick{}}
	if n := b.work(b.method.Code[pc], len(b.states[pc])); n != nil {
		all = append(all, n)
	}
	return all
}

// work answers what an instruction does to a stack that is d high; nil of one that
// does nothing, as what is popped is never read again.
func (b body) work(i api.Instr, d int) ir.Node {
	switch i.Op {
	case code.Push, code.Buf:
		return ir.Const{Dst: stacked(d), N: int32(i.A)}
	case code.Null:
		return ir.Const{Dst: stacked(d)}
	case code.Load:
		return ir.Move{Dst: stacked(d), Src: i.A}
	case code.Store:
		return ir.Move{Dst: i.A, Src: stacked(d - 1)}
	case code.Pop:
		return nil
	case code.Dup:
		return ir.Move{Dst: stacked(d), Src: stacked(d - 1)}
	case code.Add, code.Sub, code.Mul, code.And, code.Or, code.Xor, code.Shl, code.Shr, code.Sar,
		code.Eq, code.Lt, code.Below:
		return ir.Bin{Op: i.Op, Dst: stacked(d - 2), A: stacked(d - 2), B: stacked(d - 1)}
	case code.Neg, code.Not, code.IsNull:
		return ir.Un{Op: i.Op, Dst: stacked(d - 1), A: stacked(d - 1)}
	case code.Pick:
		return ir.Choose{Dst: stacked(d - 3), C: stacked(d - 3), A: stacked(d - 2), B: stacked(d - 1)}
	case code.Jump:
		return ir.Goto{To: i.A}
	case code.JumpIf:
		return ir.Branch{Cond: stacked(d - 1), To: i.A}
	case code.GetF:
		return ir.GetField{Dst: stacked(d), F: i.A}
	case code.PutF:
		return ir.PutField{F: i.A, Src: stacked(d - 1)}
	}
	return b.asking(i, d)
}

// asking answers what an instruction does that asks for what is outside of the
// method: the room, another method, the caller.
func (b body) asking(i api.Instr, d int) ir.Node {
	switch i.Op {
	case code.Call:
		m := b.image.Methods[i.A]
		args, dst := exchange(d, len(m.Params), m.Result != 0)
		return ir.Call{Method: i.A, Dst: dst, Args: args}
	case code.CallX:
		m := b.image.Imports[i.A]
		args, dst := exchange(d, len(m.Params), m.Result != 0)
		return ir.CallX{Import: i.A, Dst: dst, Args: args}
	case code.Ret:
		if b.method.Result == 0 {
			return ir.Ret{Src: none}
		}
		return ir.Ret{Src: stacked(d - 1)}
	}
	takes, gives := served(i.Op)
	args, dst := exchange(d, takes, gives)
	return ir.Serve{Op: i.Op, A: i.A, B: i.B, Dst: dst, Args: args}
}

// served answers how many an instruction takes that the room does, and whether it
// gives one. The counts are room's, on which lift does not stand.
func served(op int) (takes int, gives bool) {
	switch op {
	case code.New, code.Len:
		return 1, true
	case code.Div, code.Rem, code.Get:
		return 2, true
	case code.Put, code.Send:
		return 3, false
	case code.Copy:
		return 5, false
	case code.Same:
		return 5, true
	}
	return 0, false
}

// exchange answers the registers of what is taken off a stack that is d high, the
// topmost last, and the one of what is given in its place; none, if nothing is.
func exchange(d, takes int, gives bool) (args []int, dst int) {
	for height := d - takes; height < d; height++ {
		args = append(args, stacked(height))
	}
	if !gives {
		return args, none
	}
	return args, stacked(d - takes)
}
