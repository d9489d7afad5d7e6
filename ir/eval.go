package ir

import (
	"slices"

	"taciturn/code"
	"taciturn/word"
)

// Eval does pure nodes, at most most of them, from a node on, and answers the
// registers, the node that would be done next, and how many Ticks there were. Of
// a program that is not right, of other than Regs registers, and from what is no
// node on, it answers nothing.
func Eval(p Program, regs []int32, from, most int) ([]int32, int, int) {
	if !Check(p) || len(regs) != p.Regs || !below(len(p.Nodes), from) {
		return nil, 0, 0
	}
	r := slices.Clone(regs)
	at, ticks := from, 0
	for done := 0; done < most && pure(p.Nodes[at]); done++ {
		if isTick(p.Nodes[at]) {
			ticks++
		}
		at = do(p.Nodes[at], r, at)
	}
	return r, at, ticks
}

// isTick tells whether a node is a Tick.
func isTick(n Node) bool {
	_, ok := n.(Tick)
	return ok
}

// do does a pure node on registers r, and answers the node that comes next.
func do(n Node, r []int32, at int) int {
	switch n := n.(type) {
	case Const:
		r[n.Dst] = n.N
	case Move:
		r[n.Dst] = r[n.Src]
	case Bin:
		r[n.Dst] = two(n.Op, r[n.A], r[n.B])
	case Un:
		r[n.Dst] = one(n.Op, r[n.A])
	case Choose:
		r[n.Dst] = word.Pick(r[n.C], r[n.A], r[n.B])
	case Goto:
		return n.To
	case Branch:
		if r[n.Cond] != 0 {
			return n.To
		}
	}
	return at + 1
}

// two answers what a Bin makes of its numbers.
func two(op int, a, b int32) int32 {
	switch op {
	case code.Add:
		return word.Add(a, b)
	case code.Sub:
		return word.Sub(a, b)
	case code.Mul:
		return word.Mul(a, b)
	case code.And:
		return word.And(a, b)
	case code.Or:
		return word.Or(a, b)
	case code.Xor:
		return word.Xor(a, b)
	case code.Shl:
		return word.Shl(a, b)
	case code.Shr:
		return word.Shr(a, b)
	case code.Sar:
		return word.Sar(a, b)
	case code.Eq:
		return word.Eq(a, b)
	case code.Lt:
		return word.Lt(a, b)
	}
	return word.Below(a, b)
}

// one answers what an Un makes of its number.
func one(op int, a int32) int32 {
	switch op {
	case code.Neg:
		return word.Neg(a)
	case code.Not:
		return word.Not(a)
	}
	return word.Eq(a, 0)
}
