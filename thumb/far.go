package thumb

// Bl has two halfwords: bits 12 to 21 of its number and the sign stand in the
// first, bits 1 to 11 in the second, with bits 23 and 22 as j and k.

const (
	farFirst  = 0b11110 << 11
	farSecond = 0b11010 << 11 // of 11j1k, what is not j or k
	farWidth  = 25            // the number's bits, with the sign
)

// isFar tells whether h is a Bl's first halfword.
func isFar(h uint16) bool {
	return h&(0b11111<<11) == farFirst
}

// endsFar tells whether h is a Bl's second halfword.
func endsFar(h uint16) bool {
	return h&farSecond == farSecond
}

// layFar answers both halfwords of a Bl.
func layFar(imm int) []uint16 {
	sign := bitOf(imm, 24)
	j, k := turned(bitOf(imm, 23), sign), turned(bitOf(imm, 22), sign)
	return []uint16{
		farFirst | sign<<10 | uint16(imm>>12&0x3ff),
		farSecond | j<<13 | k<<11 | uint16(imm>>1&0x7ff),
	}
}

// takeFar answers the number that stands in both halfwords of a Bl.
func takeFar(first, second uint16) int {
	sign := first >> 10 & 1
	j, k := turned(second>>13&1, sign), turned(second>>11&1, sign)
	n := int(sign)<<24 | int(j)<<23 | int(k)<<22 |
		int(first&0x3ff)<<12 | int(second&0x7ff)<<1
	return atLeast(-1<<(farWidth-1), n, farWidth)
}

// turned answers not (bit xor sign): the way from a bit of the number to j or k,
// and back.
func turned(bit, sign uint16) uint16 {
	return bit ^ sign ^ 1
}

// bitOf answers n's bit at a place.
func bitOf(n, place int) uint16 {
	return uint16(n >> place & 1)
}
