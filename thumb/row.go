package thumb

import "math/bits"

// A row is one or more instructions' halfwords: fixed is what stands where
// nothing else does; each mask is where something stands, its lowest bit at the
// mask's lowest: p tells which instruction it is, from first on, then come the
// registers, the number, the condition; 0 of what is not used. The number is
// from least to most; it is halved so often where it is laid, and loses nothing.
type row struct {
	first                        int
	fixed, p, d, n, m, imm, cond uint16
	least, most                  int32
	halved                       uint8
}

// rows answers all rows. Bl's, which is no halfword, is there for the number's
// range alone.
func rows() [24]row {
	const (
		at0   = 0b111 // a register's three bits, from there on
		at3   = at0 << 3
		at6   = at0 << 6
		at8   = at0 << 8
		high0 = 1<<7 | at0 // with D3
		high3 = 0b1111 << 3
		five  = 0b11111 << 6 // the number's, if it has five
		eight = 0xff
	)
	return [24]row{
		{first: LslI, fixed: 0b00000 << 11, d: at0, m: at3, imm: five, most: 31},
		{first: LsrI, fixed: 0b00001 << 11, d: at0, m: at3, imm: five, least: 1, most: 32},
		{first: AsrI, fixed: 0b00010 << 11, d: at0, m: at3, imm: five, least: 1, most: 32},
		{first: AddR, fixed: 0b0001100 << 9, p: 1 << 9, d: at0, n: at3, m: at6},
		{first: AddI3, fixed: 0b0001110 << 9, p: 1 << 9, d: at0, n: at3, imm: at6, most: 7},
		{first: MovI, fixed: 0b00100 << 11, p: 0b11 << 11, d: at8, imm: eight, most: 255},
		{first: AndR, fixed: 0b010000 << 10, p: 0b1111 << 6, d: at0, m: at3},
		{first: MovH, fixed: 0b01000110 << 8, d: high0, m: high3},
		{first: StrR, fixed: 0b0101000 << 9, d: at0, n: at3, m: at6},
		{first: LdrR, fixed: 0b0101100 << 9, d: at0, n: at3, m: at6},
		{first: StrI, fixed: 0b01100 << 11, d: at0, n: at3, imm: five, most: 124, halved: 2},
		{first: LdrI, fixed: 0b01101 << 11, d: at0, n: at3, imm: five, most: 124, halved: 2},
		{first: StrbI, fixed: 0b01110 << 11, d: at0, n: at3, imm: five, most: 31},
		{first: LdrbI, fixed: 0b01111 << 11, d: at0, n: at3, imm: five, most: 31},
		{first: StrS, fixed: 0b10010 << 11, d: at8, imm: eight, most: 1020, halved: 2},
		{first: LdrS, fixed: 0b10011 << 11, d: at8, imm: eight, most: 1020, halved: 2},
		{first: AddSp, fixed: 0b101100000 << 7, p: 1 << 7, imm: 0x7f, most: 508, halved: 2},
		{first: Push, fixed: 0b1011010 << 9, imm: 0x1ff, least: 1, most: 511},
		{first: Pop, fixed: 0b1011110 << 9, imm: 0x1ff, least: 1, most: 511},
		{first: BCond, fixed: 0b1101 << 12, imm: eight, cond: 0xf << 8, least: -256, most: 254, halved: 1},
		{first: B, fixed: 0b11100 << 11, imm: 0x7ff, least: -2048, most: 2046, halved: 1},
		{first: Bl, fixed: farFirst, least: -1 << 24, most: 1<<24 - 2, halved: 1},
		{first: Svc, fixed: 0b11011111 << 8, imm: eight, most: 255},
		{first: Nop, fixed: 0b1011111100000000},
	}
}

// rowOf answers the row of an instruction; false of what is none.
func rowOf(op int) (row, bool) {
	for _, r := range rows() {
		if fits(op-r.first, r.p) {
			return r, true
		}
	}
	return row{}, false
}

// may tells whether i, an instruction of this row, is right.
func (r row) may(i Ins) bool {
	return fits(i.D, r.d) && fits(i.N, r.n) && fits(i.M, r.m) && fits(i.Cond, r.cond) &&
		int(r.least) <= i.Imm && i.Imm <= int(r.most) && i.Imm&(1<<r.halved-1) == 0 &&
		!barred(i)
}

// has tells whether h is of this row, whatever stands where the masks are.
func (r row) has(h uint16) bool {
	return h&^(r.p|r.d|r.n|r.m|r.imm|r.cond) == r.fixed
}

// lay answers the halfword of i, which is right.
func (r row) lay(i Ins) uint16 {
	return r.fixed | spread(i.Op-r.first, r.p) |
		spread(i.D, r.d) | spread(i.N, r.n) | spread(i.M, r.m) |
		spread(i.Imm>>r.halved, r.imm) | spread(i.Cond, r.cond)
}

// take answers the instruction that stands in h, right or not.
func (r row) take(h uint16) Ins {
	width := bits.OnesCount16(r.imm) + int(r.halved)
	return Ins{
		Op:   r.first + gather(h, r.p),
		D:    gather(h, r.d),
		N:    gather(h, r.n),
		M:    gather(h, r.m),
		Imm:  atLeast(int(r.least), gather(h, r.imm)<<r.halved, width),
		Cond: gather(h, r.cond),
	}
}

// barred tells whether i has a register, or a condition, that its mask would
// let be and the chapter does not.
func barred(i Ins) bool {
	switch i.Op {
	case MovH:
		return i.D == stack || i.D == counter || i.M == counter
	case BCond:
		return i.Cond > lastCond
	}
	return false
}

// fits tells whether n, without a sign, is no longer than its mask.
func fits(n int, mask uint16) bool {
	return n>>bits.OnesCount16(mask) == 0
}

// spread lays n's lowest bits where the mask has bits.
func spread(n int, mask uint16) uint16 {
	h := uint16(0)
	for ; mask != 0; mask &= mask - 1 {
		if n&1 != 0 {
			h |= mask & -mask
		}
		n >>= 1
	}
	return h
}

// gather takes the bits of h that the mask has, as one number.
func gather(h, mask uint16) int {
	n := 0
	for bit := 1; mask != 0; mask &= mask - 1 {
		if h&mask&-mask != 0 {
			n |= bit
		}
		bit <<= 1
	}
	return n
}

// atLeast answers the first number from least on whose lowest bits are n's: a
// negative one, where those may be, or a shift by 32 that was laid as 0.
func atLeast(least, n, width int) int {
	return least + (n-least)&(1<<width-1)
}
