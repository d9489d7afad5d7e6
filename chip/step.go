package chip

import (
	"taciturn/leak"
	"taciturn/mem"
	"taciturn/thumb"
)

// untouched is the address of an instruction that touches none.
const untouched = -1

// ahead is how far the pc that branches count from is ahead of the instruction.
const ahead = 4

// What instructions cost that cost more than 1.
const (
	costTouch = 2 // a load or a store
	costCond  = 3 // a BCond that is taken
	costB     = 3
	costBl    = 4
	costBack  = 3 // a Pop with pc, beside the registers
)

// Instructions as masks: what is said of one is its bit.
const (
	// Whose left operand is N, M or the stack's register, and not D.
	leftN = 1<<thumb.AddR | 1<<thumb.SubR | 1<<thumb.AddI3 | 1<<thumb.SubI3 |
		1<<thumb.LdrR | 1<<thumb.StrR | 1<<thumb.LdrI | 1<<thumb.StrI | 1<<thumb.LdrbI | 1<<thumb.StrbI
	leftM     = 1<<thumb.LslI | 1<<thumb.LsrI | 1<<thumb.AsrI
	leftStack = 1<<thumb.LdrS | 1<<thumb.StrS | 1<<thumb.AddSp | 1<<thumb.SubSp

	// Whose right operand is M, and not Imm.
	rightM = logic | 1<<thumb.AddR | 1<<thumb.SubR | 1<<thumb.LslR | 1<<thumb.LsrR | 1<<thumb.AsrR |
		1<<thumb.AdcR | 1<<thumb.SbcR | 1<<thumb.RorR | 1<<thumb.NegR | 1<<thumb.CmpR | 1<<thumb.CmnR |
		1<<thumb.MovH | 1<<thumb.LdrR | 1<<thumb.StrR

	// What comes out of them goes to D.
	setsD = signs&^compares | loads | 1<<thumb.MovH
	loads = 1<<thumb.LdrR | 1<<thumb.LdrI | 1<<thumb.LdrS | 1<<thumb.LdrbI

	// What comes out of them tells NF and ZF.
	signs    = sums | logic | shifts | 1<<thumb.MovI
	compares = 1<<thumb.CmpI | 1<<thumb.CmpR | 1<<thumb.CmnR | 1<<thumb.TstR
	sums     = 1<<thumb.AddR | 1<<thumb.SubR | 1<<thumb.AddI3 | 1<<thumb.SubI3 | 1<<thumb.CmpI |
		1<<thumb.AddI | 1<<thumb.SubI | 1<<thumb.AdcR | 1<<thumb.SbcR | 1<<thumb.NegR | 1<<thumb.CmpR | 1<<thumb.CmnR
	logic = 1<<thumb.AndR | 1<<thumb.EorR | 1<<thumb.TstR | 1<<thumb.OrrR | 1<<thumb.MulR |
		1<<thumb.BicR | 1<<thumb.MvnR
	shifts = leftM | 1<<thumb.LslR | 1<<thumb.LsrR | 1<<thumb.AsrR | 1<<thumb.RorR
)

// A step is one instruction that is being done, on a copy of the chip. What goes
// wrong makes the copy's State Fault, and turns no memory.
type step struct {
	Chip
	m       *mem.Memory
	ins     thumb.Ins
	touched int // the first address
	cost    int
}

// do does the instruction. R[15] is the next one's ahead of it, so that branches
// need only say otherwise.
func (s *step) do() {
	pc := s.R[counter] + ahead
	s.R[counter] += uint32(thumb.Size(s.ins))
	out := s.answer(s.left(), s.right(), pc)
	if s.is(signs) {
		s.NF = out>>31 != 0
		s.ZF = out == 0
	}
	if s.is(setsD) {
		s.R[s.ins.D] = out
	}
}

// answer answers what comes out of the instruction, of both its operands (0 of
// one of which nothing does), and does all that it does beside that.
func (s *step) answer(left, right, pc uint32) uint32 {
	switch s.ins.Op {
	case thumb.AddR, thumb.AddI3, thumb.AddI, thumb.CmnR:
		return s.sum(left, right, 0)
	case thumb.AdcR:
		return s.sum(left, right, s.carry())
	case thumb.SubR, thumb.SubI3, thumb.SubI, thumb.CmpI, thumb.CmpR, thumb.NegR:
		return s.sum(left, ^right, 1)
	case thumb.SbcR:
		return s.sum(left, ^right, s.carry())
	case thumb.AndR, thumb.TstR:
		return left & right
	case thumb.EorR:
		return left ^ right
	case thumb.OrrR:
		return left | right
	case thumb.BicR:
		return left &^ right
	case thumb.MvnR:
		return ^right
	case thumb.MulR:
		return left * right
	case thumb.MovI, thumb.MovH:
		return right
	case thumb.LslI, thumb.LslR:
		return s.lsl(left, right)
	case thumb.LsrI, thumb.LsrR:
		return s.lsr(left, right)
	case thumb.AsrI, thumb.AsrR:
		return s.asr(left, right)
	case thumb.RorR:
		return s.ror(left, right)
	case thumb.LdrR, thumb.LdrI, thumb.LdrS:
		return s.load(left + right)
	case thumb.LdrbI:
		return s.loadByte(left + right)
	case thumb.StrR, thumb.StrI, thumb.StrS:
		s.store(left + right)
	case thumb.StrbI:
		s.storeByte(left + right)
	case thumb.AddSp:
		s.R[stack] = left + right
	case thumb.SubSp:
		s.R[stack] = left - right
	case thumb.Push:
		s.push()
	case thumb.Pop:
		s.pop()
	case thumb.BCond:
		s.branchIf(pc + right)
	case thumb.B:
		s.branch(pc+right, costB)
	case thumb.Bl:
		s.branchLink(pc + right)
	case thumb.Svc:
		s.State, s.Number = Called, s.ins.Imm
	}
	return 0
}

// is tells whether a mask has the instruction.
func (s *step) is(mask uint64) bool {
	return mask>>uint(s.ins.Op)&1 != 0
}

// left answers the left operand: the register N, M or the stack's, else D; of
// NegR 0.
func (s *step) left() uint32 {
	if s.ins.Op == thumb.NegR {
		return 0
	}
	if s.is(leftN) {
		return s.R[s.ins.N]
	}
	if s.is(leftM) {
		return s.R[s.ins.M]
	}
	if s.is(leftStack) {
		return s.R[stack]
	}
	return s.R[s.ins.D]
}

// right answers the right operand: the register M, else Imm.
func (s *step) right() uint32 {
	if s.is(rightM) {
		return s.R[s.ins.M]
	}
	return uint32(s.ins.Imm)
}

// show keeps what showed of the instruction at an address, and counts its cost.
func (s *step) show(t *leak.Trace, at uint32) {
	s.Cycles += s.cost
	if t != nil {
		t.Add(leak.Chip, int(at), s.touched, s.cost)
	}
}
