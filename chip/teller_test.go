package chip_test

import (
	"taciturn/api"
	"taciturn/chip"
	"taciturn/leak"
	"taciturn/mem"
	"taciturn/thumb"
)

// world is a memory, and a byte for each of its addresses beside it.
type world struct {
	m     *mem.Memory
	bytes []byte
}

// newWorld answers a memory with something in all that is not code.
func newWorld() world {
	w := world{m: mem.New(), bytes: make([]byte, mem.StackTop)}
	for at := mem.Fields; at < mem.StackTop; at++ {
		w.bytes[at] = byte(at*7 + at>>8*13)
		w.m.SetByte(at, w.bytes[at])
	}
	return w
}

// load lays halfwords at an address.
func (w world) load(at int, half ...uint16) bool {
	if !w.m.Load(at, half) {
		return false
	}
	for i, h := range half {
		w.bytes[at+2*i], w.bytes[at+2*i+1] = byte(h), byte(h>>8)
	}
	return true
}

// has tells whether a thing of size bytes may be read at an address; or stored.
func (w world) has(at uint32, size int, stored bool) bool {
	return at < mem.StackTop && int(at)%size == 0 && (!stored || at >= mem.CodeEnd)
}

// number answers the size bytes at an address.
func (w world) number(at uint32, size int) uint32 {
	n := uint32(0)
	for i := range size {
		n |= uint32(w.bytes[int(at)+i]) << (8 * i)
	}
	return n
}

// lay puts the size lowest bytes of n at an address.
func (w world) lay(at uint32, size int, n uint32) {
	for i := range size {
		w.bytes[int(at)+i] = byte(n >> (8 * i))
	}
}

// adder adds bit by bit. CF is what is carried out of the highest, VF whether
// that is not what was carried into it.
func adder(c *chip.Chip, a, b uint32, carry bool) uint32 {
	sum := uint32(0)
	for bit := range 32 {
		n := a>>bit&1 + b>>bit&1
		if carry {
			n++
		}
		sum |= n & 1 << bit
		c.VF = carry != (n > 1)
		carry = n > 1
	}
	c.CF = carry
	return sum
}

// less is a difference: a sum with the inverted bits.
func less(c *chip.Chip, a, b uint32, carry bool) uint32 {
	return adder(c, a, ^b, carry)
}

// shifter shifts by 1 so often as it is told; CF is the bit that went last.
func shifter(c *chip.Chip, one func(n uint32) (uint32, bool), n, by uint32) uint32 {
	for range by {
		n, c.CF = one(n)
	}
	return n
}

func left(n uint32) (uint32, bool)  { return n << 1, n>>31 == 1 }
func right(n uint32) (uint32, bool) { return n >> 1, n&1 == 1 }
func sign(n uint32) (uint32, bool)  { return n>>1 | n&(1<<31), n&1 == 1 }
func round(n uint32) (uint32, bool) { return n>>1 | n<<31, n&1 == 1 }

// condition tells whether one holds, as 16.3 says it.
func condition(c *chip.Chip, cond int) bool {
	switch cond {
	case 0:
		return c.ZF
	case 2:
		return c.CF
	case 4:
		return c.NF
	case 6:
		return c.VF
	case 8:
		return c.CF && !c.ZF
	case 10:
		return c.NF == c.VF
	case 12:
		return !c.ZF && condition(c, 10)
	}
	return !condition(c, cond-1)
}

// told is what the chapter says of one instruction: the chip behind it, what
// shows (nothing, if shows is not set), and the memory, which it turns.
type told struct {
	world
	chip.Chip
	event api.Event
	shows bool
}

// tell tells a Step.
func (w world) tell(c chip.Chip) told {
	fault := told{Chip: c}
	fault.State = chip.Fault
	at := c.R[15]
	if c.State != chip.Going {
		return told{Chip: c}
	}
	if at >= mem.CodeEnd || at%2 != 0 {
		return fault
	}
	half := []uint16{uint16(w.number(at, 2))}
	if at+2 < mem.CodeEnd {
		half = append(half, uint16(w.number(at+2, 2)))
	}
	i, n, e := thumb.Decode(half)
	if e != api.OK {
		return fault
	}
	d := told{world: w, Chip: c, shows: true, event: api.Event{What: leak.Chip, A: int(at), B: -1, C: 1}}
	d.R[15] += uint32(2 * n)
	if !d.calculates(i) && !d.moves(i) && !d.lists(i) && !d.branches(i, at+4) {
		return fault
	}
	d.Cycles += d.event.C
	return d
}

// calculates does an instruction that reaches registers alone.
func (d *told) calculates(i thumb.Ins) bool {
	c := &d.Chip
	n, dd, m, imm := c.R[i.N], c.R[i.D], c.R[i.M], uint32(i.Imm)
	out, signs, kept := uint32(0), true, true
	switch i.Op {
	case thumb.AddR:
		out = adder(c, n, m, false)
	case thumb.AddI3:
		out = adder(c, n, imm, false)
	case thumb.AddI:
		out = adder(c, dd, imm, false)
	case thumb.AdcR:
		out = adder(c, dd, m, c.CF)
	case thumb.CmnR:
		out, kept = adder(c, dd, m, false), false
	case thumb.SubR:
		out = less(c, n, m, true)
	case thumb.SubI3:
		out = less(c, n, imm, true)
	case thumb.SubI:
		out = less(c, dd, imm, true)
	case thumb.SbcR:
		out = less(c, dd, m, c.CF)
	case thumb.NegR:
		out = less(c, 0, m, true)
	case thumb.CmpI:
		out, kept = less(c, dd, imm, true), false
	case thumb.CmpR:
		out, kept = less(c, dd, m, true), false
	case thumb.AndR:
		out = dd & m
	case thumb.TstR:
		out, kept = dd&m, false
	case thumb.EorR:
		out = dd ^ m
	case thumb.OrrR:
		out = dd | m
	case thumb.BicR:
		out = dd & ^m
	case thumb.MvnR:
		out = ^m
	case thumb.MulR:
		out = uint32(uint64(dd) * uint64(m))
	case thumb.MovI:
		out = imm
	case thumb.MovH:
		out, signs = m, false
	case thumb.LslI:
		out = shifter(c, left, m, imm)
	case thumb.LsrI:
		out = shifter(c, right, m, imm)
	case thumb.AsrI:
		out = shifter(c, sign, m, imm)
	case thumb.LslR:
		out = shifter(c, left, dd, m%256)
	case thumb.LsrR:
		out = shifter(c, right, dd, m%256)
	case thumb.AsrR:
		out = shifter(c, sign, dd, m%256)
	case thumb.RorR:
		out = shifter(c, round, dd, m%256)
	default:
		return false
	}
	if signs {
		c.NF, c.ZF = int32(out) < 0, out == 0
	}
	if kept {
		c.R[i.D] = out
	}
	return true
}

// moves does a load or a store; false of another, and of a Fault.
func (d *told) moves(i thumb.Ins) bool {
	at := map[int]uint32{
		thumb.LdrR:  d.R[i.N] + d.R[i.M],
		thumb.StrR:  d.R[i.N] + d.R[i.M],
		thumb.LdrI:  d.R[i.N] + uint32(i.Imm),
		thumb.StrI:  d.R[i.N] + uint32(i.Imm),
		thumb.LdrbI: d.R[i.N] + uint32(i.Imm),
		thumb.StrbI: d.R[i.N] + uint32(i.Imm),
		thumb.LdrS:  d.R[13] + uint32(i.Imm),
		thumb.StrS:  d.R[13] + uint32(i.Imm),
	}[i.Op]
	d.event.B, d.event.C = int(at), 2
	switch i.Op {
	case thumb.LdrR, thumb.LdrI, thumb.LdrS:
		return d.has(at, 4, false) && d.take(i.D, at, 4)
	case thumb.LdrbI:
		return d.has(at, 1, false) && d.take(i.D, at, 1)
	case thumb.StrR, thumb.StrI, thumb.StrS:
		return d.has(at, 4, true) && d.put(i.D, at, 4)
	case thumb.StrbI:
		return d.has(at, 1, true) && d.put(i.D, at, 1)
	}
	d.event.B, d.event.C = -1, 1
	return false
}

func (d *told) take(r int, at uint32, size int) bool {
	d.R[r] = d.number(at, size)
	return true
}

func (d *told) put(r int, at uint32, size int) bool {
	d.lay(at, size, d.R[r])
	return true
}

// lists does a Push or a Pop; false of another, and of a Fault.
func (d *told) lists(i thumb.Ins) bool {
	if i.Op != thumb.Push && i.Op != thumb.Pop {
		return false
	}
	list := []int{}
	for r := range 8 {
		if i.Imm&(1<<r) != 0 {
			list = append(list, r)
		}
	}
	if i.Imm >= 256 {
		list = append(list, map[int]int{thumb.Push: 14, thumb.Pop: 15}[i.Op])
	}
	low := d.R[13]
	if i.Op == thumb.Push {
		low -= uint32(4 * len(list))
	}
	for k := range list {
		if !d.has(low+uint32(4*k), 4, i.Op == thumb.Push) {
			return false
		}
	}
	d.event.B, d.event.C = int(low), 1+len(list)
	for k, r := range list {
		at := low + uint32(4*k)
		if i.Op == thumb.Push {
			d.put(r, at, 4)
			continue
		}
		d.take(r, at, 4)
		if r == 15 {
			d.R[15] -= d.R[15] % 2
			d.event.C += 3
		}
	}
	d.R[13] = low
	if i.Op == thumb.Pop {
		d.R[13] += uint32(4 * len(list))
	}
	return true
}

// branches does what is left.
func (d *told) branches(i thumb.Ins, pc uint32) bool {
	to := pc + uint32(i.Imm)
	switch i.Op {
	case thumb.BCond:
		if condition(&d.Chip, i.Cond) {
			d.R[15], d.event.C = to, 3
		}
	case thumb.B:
		d.R[15], d.event.C = to, 3
	case thumb.Bl:
		d.R[14], d.R[15], d.event.C = pc+1, to, 4
	case thumb.Svc:
		d.State, d.Number = chip.Called, i.Imm
	case thumb.AddSp:
		d.R[13] += uint32(i.Imm)
	case thumb.SubSp:
		d.R[13] -= uint32(i.Imm)
	case thumb.Nop:
	default:
		return false
	}
	return true
}
