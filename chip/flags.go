package chip

import "math/bits"

// lowestByte is what a shift goes by: all of a number that an instruction has,
// and the lowest byte of a register.
const lowestByte = 0xff

// sum answers left, right and the carry in one, and sets CF and VF: by sums of
// 64 bits, one without signs, one with them. A difference is a sum with the
// inverted bits.
func (s *step) sum(left, right, carry uint32) uint32 {
	wide := uint64(left) + uint64(right) + uint64(carry)
	signed := int64(int32(left)) + int64(int32(right)) + int64(carry)
	out := uint32(wide)
	s.CF = wide>>32 != 0
	s.VF = signed != int64(int32(out))
	return out
}

// carry answers 1, if CF is set, else 0.
func (s *step) carry() uint32 {
	if s.CF {
		return 1
	}
	return 0
}

// lsl shifts to the left. What went out last is the bit above the word; it is 0
// behind 32.
func (s *step) lsl(left, right uint32) uint32 {
	wide := uint64(left) << (right & lowestByte)
	s.wentOut(right, uint32(wide>>32))
	return uint32(wide)
}

// lsr shifts to the right. The word stands a bit higher, so that what went out
// last is the lowest bit; it is 0 behind 32.
func (s *step) lsr(left, right uint32) uint32 {
	wide := uint64(left) << 1 >> (right & lowestByte)
	s.wentOut(right, uint32(wide))
	return uint32(wide >> 1)
}

// asr is lsr with the sign.
func (s *step) asr(left, right uint32) uint32 {
	wide := int64(int32(left)) << 1 >> (right & lowestByte)
	s.wentOut(right, uint32(wide))
	return uint32(wide >> 1)
}

// ror shifts to the right, and lays above what goes out below: the last one is
// the highest bit.
func (s *step) ror(left, right uint32) uint32 {
	out := bits.RotateLeft32(left, -int(right&lowestByte))
	s.wentOut(right, out>>31)
	return out
}

// wentOut sets CF to the lowest bit of last, but for a shift by 0.
func (s *step) wentOut(by, last uint32) {
	if by&lowestByte != 0 {
		s.CF = last&1 != 0
	}
}
