package chip

// branchIf branches, if the condition holds.
func (s *step) branchIf(to uint32) {
	if s.holds(s.ins.Cond) {
		s.branch(to, costCond)
	}
}

// branch goes on at an address.
func (s *step) branch(to uint32, cost int) {
	s.R[counter] = to
	s.cost = cost
}

// branchLink branches, and keeps where to come back to in the link's register.
func (s *step) branchLink(to uint32) {
	s.R[link] = s.R[counter] + 1
	s.branch(to, costBl)
}

// holds tells whether a condition does: each odd one is not the one ahead of it.
func (s *step) holds(cond int) bool {
	even := [...]bool{
		s.ZF,
		s.CF,
		s.NF,
		s.VF,
		s.CF && !s.ZF,
		s.NF == s.VF,
		!s.ZF && s.NF == s.VF,
	}
	return even[cond/2] != (cond%2 == 1)
}
