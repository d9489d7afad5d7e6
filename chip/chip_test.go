package chip_test

import (
	"go/ast"
	"go/parser"
	"go/token"
	"math"
	"os"
	"strings"
	"testing"

	"taciturn/api"
	"taciturn/chip"
	"taciturn/leak"
	"taciturn/mem"
	"taciturn/sample"
	"taciturn/thumb"
)

// numbers are operands, most of them at some edge.
var numbers = []uint32{0, 1, 2, 3, 5, 31, 32, 33, 63, 64, 65, 127, 128, 254, 255, 256, 257, 288, 512 + 32, 0xffff, 0x10000, 0x55555555, 0xaaaaaaaa, 1<<30 - 1, 1 << 30, 1<<31 - 2, 1<<31 - 1, 1 << 31, 1<<31 + 1, 1<<31 + 32, 1<<32 - 256, 1<<32 - 32, 1<<32 - 2, 1<<32 - 1}

// addresses are of words and bytes, around the ends of each part of the memory,
// and some that are none.
var addresses = []uint32{0, 2, 4, 8, 12, 16, 100, mem.CodeEnd - 36, mem.CodeEnd - 8, mem.CodeEnd - 4, mem.CodeEnd - 1, mem.Fields, mem.Fields + 1, mem.Fields + 2, mem.Fields + 4, mem.Fields + 8, mem.Fields + 20, mem.Fields + 32, mem.Fields + 36, mem.StackEnd, mem.StackEnd + 4, mem.StackTop - 40, mem.StackTop - 36, mem.StackTop - 32, mem.StackTop - 20, mem.StackTop - 8, mem.StackTop - 4, mem.StackTop - 3, mem.StackTop - 2, mem.StackTop - 1, mem.StackTop, mem.StackTop + 4, mem.StackTop + 36, 1 << 31, 1<<32 - 128, 1<<32 - 36, 1<<32 - 4, 1<<32 - 1}

// check holds one Step against the teller, and takes what it told on.
func (w world) check(t *testing.T, c *chip.Chip) {
	t.Helper()
	was := *c
	trace := leak.New()
	want := w.tell(was)
	state := c.Step(w.m, trace)
	if *c != want.Chip || state != want.State {
		t.Errorf("16.2: of %+v: %d, %+v, not %+v", was, state, *c, want.Chip)
	}
	e, ok := trace.At(0)
	if ok != want.shows || trace.Len() > 1 || ok && e != want.event {
		t.Errorf("16.1: of %+v: shows %+v, %d events, not %+v, %t", was, e, trace.Len(), want.event, want.shows)
	}
	if want.shows && want.event.B >= 0 {
		w.around(t, want.event.B)
	}
	w.around(t, int(was.R[13]))
}

// around holds the bytes around an address against those beside the memory.
func (w world) around(t *testing.T, place int) {
	t.Helper()
	for at := max(place-40, 0); at < min(place+40, mem.StackTop); at++ {
		if b, _ := w.m.Byte(at); b != w.bytes[at] {
			t.Fatalf("16.2: byte %#x is %#x, not %#x", at, b, w.bytes[at])
		}
	}
}

// all holds all bytes against those beside the memory.
func (w world) all(t *testing.T) {
	t.Helper()
	for at, want := range w.bytes {
		if b, _ := w.m.Byte(at); b != want {
			t.Fatalf("16.2: byte %#x is %#x, not %#x", at, b, want)
		}
	}
}

// set lays an instruction at an address.
func (w world) set(t *testing.T, at int, i thumb.Ins) {
	t.Helper()
	h, e := thumb.Encode(i)
	if e != api.OK || !w.load(at, h...) {
		t.Fatalf("14.1: Encode(%+v): %d", i, e)
	}
}

// laid answers a world with instructions from address 0 on.
func laid(t *testing.T, all ...thumb.Ins) world {
	t.Helper()
	w := newWorld()
	at := 0
	for _, i := range all {
		w.set(t, at, i)
		at += thumb.Size(i)
	}
	return w
}

// flags sets all flags from the bits of a number.
func flags(c *chip.Chip, n int) {
	c.NF, c.ZF, c.CF, c.VF = n&8 != 0, n&4 != 0, n&2 != 0, n&1 != 0
}

// begun answers a chip with something in each register, that begins at 0.
func begun() *chip.Chip {
	c := chip.New()
	for r := range 15 {
		c.R[r] = uint32(0x1000000*r + 0x77)
	}
	c.R[13] = mem.StackTop - 400
	return c
}

// TestNew: 16.1, all of a new chip is 0: it is Going, and begins at address 0.
func TestNew(t *testing.T) {
	if c := chip.New(); *c != (chip.Chip{}) || c.State != chip.Going {
		t.Errorf("16.1: New: %+v", *c)
	}
	if chip.New() == chip.New() {
		t.Errorf("R2: two chips are one")
	}
}

// TestExample: the chapter's.
func TestExample(t *testing.T) {
	w := laid(t, thumb.Ins{Op: thumb.MovI, D: 0, Imm: 5}, thumb.Ins{Op: thumb.SubI, D: 0, Imm: 6})
	c := chip.New()
	if s := c.Run(w.m, nil, 2); s != chip.Going || c.R[0] != 1<<32-1 || !c.NF || c.CF {
		t.Errorf("16.2: %d, %+v", s, *c)
	}
}

// TestOperands: 16.2, each instruction that calculates, of each two edges and
// CF set or not, in three registers and in one.
func TestOperands(t *testing.T) {
	w := newWorld()
	two := []int{thumb.AndR, thumb.EorR, thumb.LslR, thumb.LsrR, thumb.AsrR, thumb.AdcR, thumb.SbcR, thumb.RorR, thumb.TstR, thumb.NegR, thumb.CmpR, thumb.CmnR, thumb.OrrR, thumb.MulR, thumb.BicR, thumb.MvnR, thumb.MovH}
	all := []thumb.Ins{{Op: thumb.AddR, D: 3, N: 1, M: 2}, {Op: thumb.SubR, D: 3, N: 1, M: 2}, {Op: thumb.AddR, D: 1, N: 1, M: 2}, {Op: thumb.SubR, D: 2, N: 1, M: 2}}
	for _, op := range two {
		all = append(all, thumb.Ins{Op: op, D: 1, M: 2}, thumb.Ins{Op: op, D: 1, M: 1})
	}
	for _, i := range all {
		w.set(t, 0, i)
		for _, a := range numbers {
			for _, b := range numbers {
				for n := range 4 {
					c := begun()
					c.R[1], c.R[2] = a, b
					flags(c, n&1*15^n&2)
					w.check(t, c)
				}
			}
		}
	}
}

// TestEveryShift: 16.2, each shift by each byte, with more above it.
func TestEveryShift(t *testing.T) {
	w := newWorld()
	for _, op := range []int{thumb.LslR, thumb.LsrR, thumb.AsrR, thumb.RorR} {
		w.set(t, 0, thumb.Ins{Op: op, D: 1, M: 2})
		for by := range 512 {
			for _, a := range numbers {
				c := begun()
				c.R[1], c.R[2], c.CF = a, uint32(by)<<23|uint32(by), by&1 != 0
				c.R[2] = c.R[2]&^0xff | uint32(by&0xff)
				w.check(t, c)
			}
		}
	}
}

// TestNumbers: 16.2, each instruction with a number, of each number.
func TestNumbers(t *testing.T) {
	w := newWorld()
	try := func(i thumb.Ins) {
		w.set(t, 0, i)
		for k, a := range numbers {
			c := begun()
			c.R[1] = a
			flags(c, k*7)
			w.check(t, c)
		}
	}
	for n := range 256 {
		for _, op := range []int{thumb.MovI, thumb.CmpI, thumb.AddI, thumb.SubI} {
			try(thumb.Ins{Op: op, D: 1, Imm: n})
		}
		if n < 8 {
			try(thumb.Ins{Op: thumb.AddI3, D: 3, N: 1, Imm: n})
			try(thumb.Ins{Op: thumb.SubI3, D: 1, N: 1, Imm: n})
		}
		if n < 32 {
			try(thumb.Ins{Op: thumb.LslI, D: 3, M: 1, Imm: n})
			try(thumb.Ins{Op: thumb.LsrI, D: 3, M: 1, Imm: n + 1})
			try(thumb.Ins{Op: thumb.AsrI, D: 1, M: 1, Imm: n + 1})
		}
	}
}

// TestHalfwords: 16.1 to 16.3, whatever halfword stands anywhere in code, with
// whatever in the registers: the teller says the same.
func TestHalfwords(t *testing.T) {
	w := newWorld()
	dice := sample.NewDice(16)
	number := func() uint32 {
		switch dice.UpTo(4) {
		case 0:
			return numbers[dice.UpTo(len(numbers)-1)]
		case 1:
			return uint32(dice.UpTo(math.MaxUint32))
		case 2:
			return uint32(mem.Fields + 4*dice.UpTo((mem.StackTop-mem.Fields)/4))
		}
		return addresses[dice.UpTo(len(addresses)-1)]
	}
	for n := range 3 << 16 {
		c := chip.New()
		for r := range c.R {
			c.R[r] = number()
		}
		flags(c, dice.UpTo(15))
		c.Number, c.Cycles = dice.UpTo(300), dice.UpTo(1<<20)
		at := 2 * dice.UpTo(mem.CodeEnd/2-1)
		if dice.UpTo(20) == 0 {
			at = []int{0, 2, mem.CodeEnd - 4, mem.CodeEnd - 2}[dice.UpTo(3)]
		}
		w.load(at, uint16(n))
		w.load(at+2, uint16(dice.UpTo(0xffff)|dice.UpTo(1)*0xd000))
		c.R[15] = uint32(at)
		w.check(t, c)
		if t.Failed() {
			return
		}
	}
	w.all(t)
}

// TestTouch: 16.2, each load and store at each address, and around it.
func TestTouch(t *testing.T) {
	w := newWorld()
	for _, i := range []thumb.Ins{
		{Op: thumb.LdrR, D: 3, N: 1, M: 2}, {Op: thumb.StrR, D: 3, N: 1, M: 2}, {Op: thumb.LdrR, D: 1, N: 1, M: 2},
		{Op: thumb.LdrI, D: 3, N: 1}, {Op: thumb.StrI, D: 3, N: 1}, {Op: thumb.LdrI, D: 3, N: 1, Imm: 124}, {Op: thumb.StrI, D: 3, N: 1, Imm: 124},
		{Op: thumb.LdrbI, D: 3, N: 1}, {Op: thumb.StrbI, D: 3, N: 1}, {Op: thumb.LdrbI, D: 3, N: 1, Imm: 31}, {Op: thumb.StrbI, D: 3, N: 1, Imm: 31},
		{Op: thumb.LdrS, D: 3}, {Op: thumb.StrS, D: 3}, {Op: thumb.LdrS, D: 3, Imm: 1020}, {Op: thumb.StrS, D: 3, Imm: 1020},
	} {
		w.set(t, 0, i)
		for _, at := range addresses {
			for n := -4; n <= 4; n++ {
				c := begun()
				c.R[2], c.R[3] = uint32(n), 0x12345678
				c.R[1], c.R[13] = at, at
				if i.Op != thumb.LdrR && i.Op != thumb.StrR {
					c.R[1], c.R[13] = at+uint32(n-i.Imm), at+uint32(n-i.Imm)
				}
				w.check(t, c)
			}
		}
	}
	w.all(t)
}

// TestLists: 16.2, each list that Push and Pop may have, in the midst of the
// stack and at its edges.
func TestLists(t *testing.T) {
	w := newWorld()
	for list := 1; list < 512; list++ {
		for _, op := range []int{thumb.Push, thumb.Pop} {
			w.set(t, 0, thumb.Ins{Op: op, Imm: list})
			for _, at := range append(addresses, mem.StackTop-100) {
				c := begun()
				c.R[13] = at
				w.check(t, c)
			}
		}
	}
	w.all(t)
}

// TestPushAgain: 16.2, Pop takes back what Push laid; lr comes back as pc, without
// bit 0.
func TestPushAgain(t *testing.T) {
	w := laid(t, thumb.Ins{Op: thumb.Push, Imm: 0x1a5}, thumb.Ins{Op: thumb.MovI, D: 5}, thumb.Ins{Op: thumb.Pop, Imm: 0x1a5})
	for _, lr := range []uint32{101, 100, 1<<32 - 1} {
		c := begun()
		c.R[14] = lr
		was := *c
		if s := c.Run(w.m, nil, 3); s != chip.Going || c.R[13] != was.R[13] || c.R[5] != was.R[5] || c.R[15] != lr&^1 || c.Cycles != 6+1+9 {
			t.Errorf("16.2: %d, %+v, of %+v", s, *c, was)
		}
		if n, ok := w.m.Word(int(was.R[13] - 4)); !ok || n != lr {
			t.Errorf("16.2: lr is not the last: %x", n)
		}
		if n, ok := w.m.Word(int(was.R[13] - 20)); !ok || n != was.R[0] {
			t.Errorf("16.2: the lowest is not the lowest: %x", n)
		}
	}
}

// TestPushFault: 16.2, a Push that does not fit wholly leaves memory as it was.
func TestPushFault(t *testing.T) {
	w := laid(t, thumb.Ins{Op: thumb.Push, Imm: 0x1ff})
	for words := range 10 {
		c := begun()
		c.R[13] = mem.Fields + 4*uint32(words)
		want := chip.Fault
		if words == 9 {
			want = chip.Going
		}
		was := *c
		if s := c.Step(w.m, nil); s != want {
			t.Errorf("16.2: Push with room for %d words: %d", words, s)
		}
		if was.State = chip.Fault; want == chip.Fault && *c != was {
			t.Errorf("16.1: a Fault left %+v, not %+v", *c, was)
		}
		if want == chip.Fault {
			w.all(t)
		}
	}
}

// TestConditions: 16.3, each condition with each flags, forwards and back.
func TestConditions(t *testing.T) {
	w := newWorld()
	for cond := range 14 {
		for _, far := range []int{-256, -6, -4, -2, 0, 2, 254} {
			w.set(t, 512, thumb.Ins{Op: thumb.BCond, Cond: cond, Imm: far})
			for n := range 16 {
				c := begun()
				c.R[15] = 512
				flags(c, n)
				w.check(t, c)
			}
		}
	}
}

// TestConditionTable: 16.3, which flags each condition holds with: a bit for each
// of the sixteen, of NF ZF CF VF as 8, 4, 2, 1.
func TestConditionTable(t *testing.T) {
	for cond, holds := range []int{0xf0f0, 0x0f0f, 0xcccc, 0x3333, 0xff00, 0x00ff, 0xaaaa, 0x5555, 0x0c0c, 0xf3f3, 0xaa55, 0x55aa, 0x0a05, 0xf5fa} {
		w := laid(t, thumb.Ins{Op: thumb.BCond, Cond: cond, Imm: 100})
		for n := range 16 {
			c := begun()
			flags(c, n)
			want, cost := uint32(2), 1
			if holds>>n&1 != 0 {
				want, cost = 104, 3
			}
			if s := c.Step(w.m, nil); s != chip.Going || c.R[15] != want || c.Cycles != cost {
				t.Errorf("16.3: condition %d with flags %d: %d, %d cycles", cond, n, c.R[15], c.Cycles)
			}
		}
	}
}

// TestBranches: 16.3, B, Bl and Svc, from some place to others, out of code too.
func TestBranches(t *testing.T) {
	w := newWorld()
	for _, at := range []int{0, 2, 4096, mem.CodeEnd - 4} {
		for _, i := range []thumb.Ins{
			{Op: thumb.B}, {Op: thumb.B, Imm: -4}, {Op: thumb.B, Imm: -2048}, {Op: thumb.B, Imm: 2046},
			{Op: thumb.Bl}, {Op: thumb.Bl, Imm: -4}, {Op: thumb.Bl, Imm: -1 << 24}, {Op: thumb.Bl, Imm: 1<<24 - 2},
			{Op: thumb.Svc}, {Op: thumb.Svc, Imm: 1}, {Op: thumb.Svc, Imm: 255}, {Op: thumb.Nop},
		} {
			w.set(t, at, i)
			c := begun()
			c.R[15], c.Number = uint32(at), 77
			w.check(t, c)
			w.check(t, c)
		}
	}
}

// TestCosts: 16.3, what each instruction costs, one by one.
func TestCosts(t *testing.T) {
	for _, x := range []struct {
		i             thumb.Ins
		cost, touched int
	}{
		{thumb.Ins{Op: thumb.MovI}, 1, -1}, {thumb.Ins{Op: thumb.MulR}, 1, -1}, {thumb.Ins{Op: thumb.RorR}, 1, -1},
		{thumb.Ins{Op: thumb.LdrS}, 2, mem.StackTop - 400}, {thumb.Ins{Op: thumb.StrS, Imm: 8}, 2, mem.StackTop - 392},
		{thumb.Ins{Op: thumb.LdrI, D: 0, N: 6}, 2, mem.Fields}, {thumb.Ins{Op: thumb.StrI, N: 6, Imm: 4}, 2, mem.Fields + 4},
		{thumb.Ins{Op: thumb.LdrR, N: 6, M: 5}, 2, mem.Fields + 8}, {thumb.Ins{Op: thumb.StrR, N: 6, M: 5}, 2, mem.Fields + 8},
		{thumb.Ins{Op: thumb.LdrbI, N: 6, Imm: 3}, 2, mem.Fields + 3}, {thumb.Ins{Op: thumb.StrbI, N: 6, Imm: 1}, 2, mem.Fields + 1},
		{thumb.Ins{Op: thumb.Push, Imm: 1}, 2, mem.StackTop - 404}, {thumb.Ins{Op: thumb.Push, Imm: 256}, 2, mem.StackTop - 404},
		{thumb.Ins{Op: thumb.Push, Imm: 511}, 10, mem.StackTop - 436}, {thumb.Ins{Op: thumb.Pop, Imm: 128}, 2, mem.StackTop - 400},
		{thumb.Ins{Op: thumb.Pop, Imm: 255}, 9, mem.StackTop - 400}, {thumb.Ins{Op: thumb.Pop, Imm: 256}, 5, mem.StackTop - 400},
		{thumb.Ins{Op: thumb.Pop, Imm: 511}, 13, mem.StackTop - 400}, {thumb.Ins{Op: thumb.AddSp, Imm: 8}, 1, -1}, {thumb.Ins{Op: thumb.SubSp, Imm: 8}, 1, -1},
		{thumb.Ins{Op: thumb.B}, 3, -1}, {thumb.Ins{Op: thumb.Bl}, 4, -1}, {thumb.Ins{Op: thumb.Svc}, 1, -1}, {thumb.Ins{Op: thumb.Nop}, 1, -1},
	} {
		w := newWorld()
		w.set(t, 40, x.i)
		c := begun()
		c.R[6], c.R[5], c.R[15], c.Cycles = mem.Fields, 8, 40, 1000
		trace := leak.New()
		trace.Add(leak.Step, 1, 2, 3)
		c.Step(w.m, trace)
		e, _ := trace.At(1)
		if e != (api.Event{What: leak.Chip, A: 40, B: x.touched, C: x.cost}) || trace.Len() != 2 || c.Cycles != 1000+x.cost {
			t.Errorf("16.3: %+v: %+v, %d cycles", x.i, e, c.Cycles)
		}
	}
}

// TestNone: 16.1, a Fault where there is no instruction, and nothing else.
func TestNone(t *testing.T) {
	w := newWorld()
	w.load(100, 0xde00, 0xbf00, 0xf000, 0xbf00)
	w.load(mem.CodeEnd-2, 0xf000)
	for _, at := range []uint32{100, 104, 101, 103, 1, mem.CodeEnd - 1, mem.CodeEnd - 2, mem.CodeEnd, mem.Fields + 4, mem.StackTop, 1 << 31, 1<<32 - 2, 1<<32 - 1} {
		c := begun()
		c.R[15], c.Number, c.Cycles = at, 5, 6
		flags(c, int(at))
		want := *c
		want.State = chip.Fault
		trace := leak.New()
		for range 2 {
			if s := c.Step(w.m, trace); s != chip.Fault || *c != want || trace.Len() != 0 {
				t.Errorf("16.1: at %#x: %d, %+v, %d events", at, s, *c, trace.Len())
			}
		}
	}
	w.all(t)
}

// TestLastHalfword: 16.1, the last halfword of code is done, and then there is
// none; a Bl may be the last two.
func TestLastHalfword(t *testing.T) {
	w := newWorld()
	w.set(t, mem.CodeEnd-4, thumb.Ins{Op: thumb.Bl, Imm: -mem.CodeEnd})
	c := begun()
	c.R[15] = mem.CodeEnd - 4
	if s := c.Step(w.m, nil); s != chip.Going || c.R[15] != 0 || c.R[14] != mem.CodeEnd+1 {
		t.Errorf("16.3: %d, %+v", s, *c)
	}
	w.set(t, mem.CodeEnd-2, thumb.Ins{Op: thumb.Nop})
	c.R[15] = mem.CodeEnd - 2
	if s := c.Step(w.m, nil); s != chip.Going || c.R[15] != mem.CodeEnd {
		t.Errorf("16.1: %d, %+v", s, *c)
	}
	if s := c.Step(w.m, nil); s != chip.Fault || c.R[15] != mem.CodeEnd {
		t.Errorf("16.1: %d, %+v", s, *c)
	}
}

// TestStands: 16.1 and 16.4, of one that is not Going nothing.
func TestStands(t *testing.T) {
	w := laid(t, thumb.Ins{Op: thumb.MovI, D: 0, Imm: 5})
	for _, state := range []int{chip.Called, chip.Fault, 3, -1, 1 << 40} {
		c := begun()
		c.State = state
		was := *c
		trace := leak.New()
		if s := c.Step(w.m, trace); s != state || *c != was || trace.Len() != 0 {
			t.Errorf("16.1: Step of state %d: %d, %+v", state, s, *c)
		}
		if s := c.Run(w.m, trace, 10); s != state || *c != was || trace.Len() != 0 {
			t.Errorf("16.4: Run of state %d: %d, %+v", state, s, *c)
		}
	}
}

// TestTrace: 16.1, without a trace, or with one that is full, all is done the same.
func TestTrace(t *testing.T) {
	w := laid(t, thumb.Ins{Op: thumb.StrS, D: 1}, thumb.Ins{Op: thumb.Svc, Imm: 3})
	full := leak.New()
	for full.Add(leak.Step, 0, 0, 0) {
	}
	with, without, behind := begun(), begun(), begun()
	trace := leak.New()
	with.Run(w.m, trace, 5)
	without.Run(w.m, nil, 5)
	behind.Run(w.m, full, 5)
	if *with != *without || *with != *behind || trace.Len() != 2 || full.Len() != api.MaxTrace {
		t.Errorf("16.1: %+v, %+v, %+v", *with, *without, *behind)
	}
}

// TestRun: 16.4, at most most Steps, and no more behind Called or a Fault.
func TestRun(t *testing.T) {
	nop := thumb.Ins{Op: thumb.Nop}
	w := laid(t, nop, nop, nop, thumb.Ins{Op: thumb.Svc, Imm: 7}, nop, thumb.Ins{Op: thumb.LdrS})
	for most, want := range map[int]uint32{math.MinInt: 0, -1: 0, 0: 0, 1: 2, 3: 6, 4: 8, 5: 8, math.MaxInt: 8} {
		c := begun()
		trace := leak.New()
		state := chip.Going
		if want == 8 {
			state = chip.Called
		}
		if s := c.Run(w.m, trace, most); s != state || c.State != state || c.R[15] != want || trace.Len() != int(want)/2 {
			t.Errorf("16.4: Run of %d: %d, %+v, %d events", most, s, *c, trace.Len())
		}
	}
	c := begun()
	c.R[13], c.R[15] = 2, 8
	if s := c.Run(w.m, nil, 100); s != chip.Fault || c.R[15] != 10 || c.Cycles != 1 {
		t.Errorf("16.4: %d, %+v", s, *c)
	}
}

// TestRounds: 16.1 to 16.4, a loop that sums up, as the chip does it.
func TestRounds(t *testing.T) {
	w := laid(t,
		thumb.Ins{Op: thumb.MovI, D: 0}, thumb.Ins{Op: thumb.MovI, D: 1, Imm: 100},
		thumb.Ins{Op: thumb.AddR, D: 0, N: 0, M: 1}, thumb.Ins{Op: thumb.SubI, D: 1, Imm: 1}, thumb.Ins{Op: thumb.BCond, Cond: 1, Imm: -8},
		thumb.Ins{Op: thumb.Svc, Imm: 1})
	c := begun()
	trace := leak.New()
	if s := c.Run(w.m, trace, 1000); s != chip.Called || c.R[0] != 5050 || c.R[1] != 0 || c.Cycles != 2+99*5+3+1 || trace.Len() != 303 {
		t.Errorf("16.4: %d, %+v, %d events", s, *c, trace.Len())
	}
}

// TestNil: R1, nothing panics.
func TestNil(t *testing.T) {
	c := begun()
	want := *c
	want.State = chip.Fault
	if s := c.Step(nil, leak.New()); s != chip.Fault || *c != want {
		t.Errorf("R1: Step without a memory: %d, %+v", s, *c)
	}
	if s := begun().Run(nil, nil, 9); s != chip.Fault {
		t.Errorf("R1: Run without a memory: %d", s)
	}
	var none *chip.Chip
	none.Step(mem.New(), nil)
	none.Run(mem.New(), nil, math.MaxInt)
}

// TestAlike: R7, two chips on memories of their own know nothing of one another.
func TestAlike(t *testing.T) {
	w, other := laid(t, thumb.Ins{Op: thumb.StrS, D: 1}), laid(t, thumb.Ins{Op: thumb.Svc, Imm: 3})
	c, d := begun(), begun()
	c.Step(w.m, nil)
	d.Step(other.m, nil)
	other.all(t)
	if c.State != chip.Going || d.State != chip.Called || d.Number != 3 || c.Number != 0 {
		t.Errorf("R7: %+v, %+v", *c, *d)
	}
}

// TestWays: one switch, and sums of 64 bits.
func TestWays(t *testing.T) {
	files, e := os.ReadDir(".")
	if e != nil {
		t.Fatal(e)
	}
	switches, wide := 0, 0
	for _, f := range files {
		if !strings.HasSuffix(f.Name(), ".go") || strings.HasSuffix(f.Name(), "_test.go") {
			continue
		}
		tree, e := parser.ParseFile(token.NewFileSet(), f.Name(), nil, 0)
		if e != nil {
			t.Fatal(e)
		}
		ast.Inspect(tree, func(n ast.Node) bool {
			switch n := n.(type) {
			case *ast.SwitchStmt, *ast.TypeSwitchStmt:
				switches++
			case *ast.FuncDecl:
				if n.Name.Name == "sum" {
					wide += wideSums(n)
				}
			}
			return true
		})
	}
	if switches != 1 || wide != 2 {
		t.Errorf("Ways: %d switches, %d sums of 64 bits", switches, wide)
	}
}

// wideSums counts the sums whose first part is made one of 64 bits.
func wideSums(f *ast.FuncDecl) int {
	n := 0
	ast.Inspect(f, func(node ast.Node) bool {
		sum, ok := node.(*ast.BinaryExpr)
		if !ok || sum.Op != token.ADD {
			return true
		}
		if call, ok := sum.X.(*ast.CallExpr); ok {
			if to, ok := call.Fun.(*ast.Ident); ok && strings.HasSuffix(to.Name, "int64") {
				n++
			}
		}
		return true
	})
	return n
}
