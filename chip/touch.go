package chip

// Of Push and Pop: how many low registers a list has, and how many bytes a word.
const (
	lowRegisters = 8
	wordSize     = 4
)

// touch tells that an address is touched, and whether that is well.
func (s *step) touch(at uint32, ok bool) {
	s.touched = int(at)
	s.cost = costTouch
	s.need(ok)
}

// need makes a Fault of what mem says false to.
func (s *step) need(ok bool) {
	if !ok {
		s.State = Fault
	}
}

// load answers the word at an address.
func (s *step) load(at uint32) uint32 {
	n, ok := s.m.Word(int(at))
	s.touch(at, ok)
	return n
}

// loadByte answers the byte at an address.
func (s *step) loadByte(at uint32) uint32 {
	b, ok := s.m.Byte(int(at))
	s.touch(at, ok)
	return uint32(b)
}

// store lays D at an address.
func (s *step) store(at uint32) {
	s.touch(at, s.m.SetWord(int(at), s.R[s.ins.D]))
}

// storeByte lays D's lowest byte at an address.
func (s *step) storeByte(at uint32) {
	s.touch(at, s.m.SetByte(int(at), byte(s.R[s.ins.D])))
}

// push lays the list's registers below the stack's end; all of them, or none: it
// asks of each place ahead of the first store.
func (s *step) push() {
	list := registers(s.ins.Imm, link)
	low := s.R[stack] - uint32(wordSize*len(list))
	for k := range list {
		s.need(s.mayStore(int(low) + wordSize*k))
	}
	if s.State == Fault {
		return
	}
	for k, r := range list {
		s.m.SetWord(int(low)+wordSize*k, s.R[r])
	}
	s.R[stack] = low
	s.touched = int(low)
	s.cost += len(list)
}

// pop takes the list's registers back.
func (s *step) pop() {
	list := registers(s.ins.Imm, counter)
	low := s.R[stack]
	for k, r := range list {
		n, ok := s.m.Word(int(low) + wordSize*k)
		s.need(ok)
		s.R[r] = n
		if r == counter {
			s.R[r] &^= 1
			s.cost += costBack
		}
	}
	s.R[stack] = low + uint32(wordSize*len(list))
	s.touched = int(low)
	s.cost += len(list)
}

// mayStore tells whether a word may be laid at an address: it lays the one that
// stands there.
func (s *step) mayStore(at int) bool {
	n, ok := s.m.Word(at)
	return ok && s.m.SetWord(at, n)
}

// registers answers those of a list, the lowest ahead; the bit behind the low
// ones is that of last.
func registers(list, last int) []int {
	all := make([]int, 0, lowRegisters+1)
	for r := range lowRegisters {
		if list>>r&1 != 0 {
			all = append(all, r)
		}
	}
	if list>>lowRegisters&1 != 0 {
		all = append(all, last)
	}
	return all
}
