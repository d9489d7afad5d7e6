package sample

import (
	"math"

	"taciturn/api"
	"taciturn/code"
	"taciturn/ir"
)

// Program answers a program that is right, of at most that many nodes and
// registers. How often a node is not pure hangs on the program.
func (d *Dice) Program(nodes, regs int) ir.Program {
	p := ir.Program{Regs: d.UpTo(regs)}
	p.Params = d.UpTo(min(api.MaxParams, p.Regs))
	count, rare := 1+d.UpTo(nodes-1), 1+d.UpTo(30)
	for range count - 1 {
		n := d.pure(p.Regs, count)
		if d.UpTo(rare) == 0 {
			n = d.asking(p.Regs)
		}
		p.Nodes = append(p.Nodes, n)
	}
	last := ir.Node(ir.Ret{Src: d.register(p.Regs)})
	if d.UpTo(9) == 0 {
		last = ir.Goto{To: d.UpTo(count - 1)}
	}
	p.Nodes = append(p.Nodes, last)
	return p
}

// Words answers n numbers of 32 bits, about every other one a small one.
func (d *Dice) Words(n int) []int32 {
	all := []int32(nil)
	for range n {
		w := int32(d.UpTo(6) - 3)
		switch d.UpTo(3) {
		case 0:
			w = int32(d.UpTo(math.MaxUint32) + math.MinInt32)
		case 1:
			w = int32(uint32(1)<<d.UpTo(31)) + w
		}
		all = append(all, w)
	}
	return all
}

// register answers one of regs registers, or -1.
func (d *Dice) register(regs int) int { return d.UpTo(regs) - 1 }

// registers answers n of regs registers.
func (d *Dice) registers(regs, n int) []int {
	all := []int(nil)
	for range n {
		all = append(all, d.UpTo(regs-1))
	}
	return all
}

// pure answers a pure node, of regs registers, in a program of that many nodes.
func (d *Dice) pure(regs, nodes int) ir.Node {
	if regs == 0 {
		return []ir.Node{ir.Tick{}, ir.Goto{To: d.UpTo(nodes - 1)}}[d.UpTo(1)]
	}
	r := d.registers(regs, 4)
	switch d.UpTo(14) {
	case 0, 1:
		return ir.Const{Dst: r[0], N: d.Words(1)[0]}
	case 2, 3:
		return ir.Move{Dst: r[0], Src: r[1]}
	case 4:
		un := []int{code.Neg, code.Not, code.IsNull}
		return ir.Un{Op: un[d.UpTo(2)], Dst: r[0], A: r[1]}
	case 5, 6:
		return ir.Choose{Dst: r[0], C: r[1], A: r[2], B: r[3]}
	case 7, 8:
		return ir.Tick{}
	case 9:
		return ir.Goto{To: d.UpTo(nodes - 1)}
	case 10:
		return ir.Branch{Cond: r[0], To: d.UpTo(nodes - 1)}
	}
	bin := []int{code.Eq, code.Lt, code.Below}
	for op := code.Add; op <= code.Sar; op++ {
		bin = append(bin, op)
	}
	return ir.Bin{Op: bin[d.UpTo(len(bin)-1)], Dst: r[0], A: r[1], B: r[2]}
}

// asking answers a node that is not pure, of regs registers.
func (d *Dice) asking(regs int) ir.Node {
	kind := d.UpTo(6)
	if regs == 0 {
		kind = d.UpTo(2)
	}
	args := d.registers(max(regs, 1), d.UpTo(min(api.MaxParams, regs)))
	switch kind {
	case 0:
		return ir.Call{Method: d.UpTo(api.MaxMethods - 1), Dst: d.register(regs), Args: args}
	case 1:
		return ir.CallX{Import: d.UpTo(api.MaxImports - 1), Dst: d.register(regs), Args: args}
	case 2:
		return ir.Ret{Src: d.register(regs)}
	case 3:
		return ir.GetField{Dst: d.UpTo(regs - 1), F: d.UpTo(api.MaxFields - 1)}
	case 4:
		return ir.PutField{F: d.UpTo(api.MaxFields - 1), Src: d.UpTo(regs - 1)}
	}
	return d.serve(regs)
}

// serve answers a node that asks the room, of regs registers.
func (d *Dice) serve(regs int) ir.Node {
	ops := []int{code.Div, code.Rem, code.New, code.Len, code.Get, code.Put, code.Copy, code.Same, code.Send}
	takes := []int{2, 2, 1, 1, 2, 3, 5, 5, 3}
	k := d.UpTo(len(ops) - 1)
	return ir.Serve{Op: ops[k], A: d.UpTo(4), B: d.UpTo(6), Dst: d.register(regs), Args: d.registers(regs, takes[k])}
}
