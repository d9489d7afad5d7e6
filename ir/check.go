package ir

import (
	"taciturn/api"
	"taciturn/code"
)

// mostNodes and mostRegs bound a program.
const (
	mostNodes = 250
	mostRegs  = 40
)

// unserved is how many Args a Serve has whose Op the room does not serve.
const unserved = -1

// Check tells whether a program is right.
func Check(p Program) bool {
	switch {
	case len(p.Nodes) < 1, len(p.Nodes) > mostNodes:
		return false
	case p.Regs < 0, p.Regs > mostRegs:
		return false
	case p.Params < 0, p.Params > min(api.MaxParams, p.Regs):
		return false
	}
	for at, n := range p.Nodes {
		if !isNode(n, p.Regs) || !below(len(p.Nodes), behind(n, at)...) {
			return false
		}
	}
	return true
}

// isNode tells whether a node is one, of numbers that it may have, and of
// registers that are among regs. Where it goes is not asked.
func isNode(n Node, regs int) bool {
	switch n := n.(type) {
	case Const:
		return below(regs, n.Dst)
	case Move:
		return below(regs, n.Dst, n.Src)
	case Bin:
		return isBin(n.Op) && below(regs, n.Dst, n.A, n.B)
	case Un:
		return isUn(n.Op) && below(regs, n.Dst, n.A)
	case Choose:
		return below(regs, n.Dst, n.C, n.A, n.B)
	case Tick, Goto:
		return true
	case Branch:
		return below(regs, n.Cond)
	case GetField:
		return below(api.MaxFields, n.F) && below(regs, n.Dst)
	case PutField:
		return below(api.MaxFields, n.F) && below(regs, n.Src)
	case Serve:
		return len(n.Args) == served(n.Op) && mayLack(regs, n.Dst) && below(regs, n.Args...)
	case Call:
		return below(api.MaxMethods, n.Method) && isCall(regs, n.Dst, n.Args)
	case CallX:
		return below(api.MaxImports, n.Import) && isCall(regs, n.Dst, n.Args)
	case Ret:
		return mayLack(regs, n.Src)
	}
	return false
}

// below tells whether all of the numbers are 0 to end - 1.
func below(end int, all ...int) bool {
	for _, n := range all {
		if n < 0 || n >= end {
			return false
		}
	}
	return true
}

// mayLack tells whether a register is among regs, or none.
func mayLack(regs, r int) bool {
	return r == none || below(regs, r)
}

// isCall tells whether a call's registers are right, and its Args not too many.
func isCall(regs, dst int, args []int) bool {
	return len(args) <= api.MaxParams && mayLack(regs, dst) && below(regs, args...)
}

// isBin tells whether a Bin may have that Op.
func isBin(op int) bool {
	switch op {
	case code.Eq, code.Lt, code.Below:
		return true
	}
	return op >= code.Add && op <= code.Sar
}

// isUn tells whether an Un may have that Op.
func isUn(op int) bool {
	switch op {
	case code.Neg, code.Not, code.IsNull:
		return true
	}
	return false
}

// served answers how many Args a Serve of that Op has. It says again what room's
// Serves does: ir does not stand on room.
func served(op int) int {
	switch op {
	case code.New, code.Len:
		return 1
	case code.Div, code.Rem, code.Get:
		return 2
	case code.Put, code.Send:
		return 3
	case code.Copy, code.Same:
		return 5
	}
	return unserved
}
