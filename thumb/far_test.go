package thumb_test

import (
	"slices"
	"testing"

	"taciturn/api"
	"taciturn/thumb"
)

// farNumbers are numbers that a Bl may have: each bit by itself, set or not, the
// edges, and some by a fixed rule.
func farNumbers() []int {
	all := []int{0, 2, -2, 1<<24 - 2, 1<<24 - 4, -1 << 24, -1<<24 + 2}
	for shift := 1; shift < 24; shift++ {
		all = append(all, 1<<shift, -1<<shift, 1<<24-2-1<<shift, -1<<24+1<<shift)
	}
	n := uint32(14)
	for range 20000 {
		n = n*1664525 + 1013904223
		all = append(all, int(int32(n)>>8)*2)
	}
	return all
}

// TestFar: 14.1, a Bl has two halfwords, as the chapter says of its bits.
func TestFar(t *testing.T) {
	for _, imm := range farNumbers() {
		words := farWords(imm)
		checkLaid(t, thumb.Ins{Op: thumb.Bl, Imm: imm}, words[:]...)
	}
}

// TestFarKnown: 14.1, some Bls whose halfwords are known.
func TestFarKnown(t *testing.T) {
	checkLaid(t, thumb.Ins{Op: thumb.Bl}, 0xf000, 0xf800)
	checkLaid(t, thumb.Ins{Op: thumb.Bl, Imm: -4}, 0xf7ff, 0xfffe)
	checkLaid(t, thumb.Ins{Op: thumb.Bl, Imm: 4094}, 0xf000, 0xffff)
	checkLaid(t, thumb.Ins{Op: thumb.Bl, Imm: 4096}, 0xf001, 0xf800)
	checkLaid(t, thumb.Ins{Op: thumb.Bl, Imm: 1 << 22}, 0xf000, 0xf000)
	checkLaid(t, thumb.Ins{Op: thumb.Bl, Imm: 1 << 23}, 0xf000, 0xd800)
	checkLaid(t, thumb.Ins{Op: thumb.Bl, Imm: 1<<24 - 2}, 0xf3ff, 0xd7ff)
	checkLaid(t, thumb.Ins{Op: thumb.Bl, Imm: -1 << 24}, 0xf400, 0xd000)
}

// TestFarWrong: 14.1, numbers that are odd, or out of Bl's range.
func TestFarWrong(t *testing.T) {
	for _, imm := range []int{1, -1, 3, -3, 1<<24 - 1, 1 << 24, 1<<24 + 2, -1<<24 - 1, -1<<24 - 2, 1 << 25, 1 << 32, 1<<32 + 2, -1 << 32} {
		checkWrong(t, thumb.Ins{Op: thumb.Bl, Imm: imm})
	}
}

// TestFarFirst: 14.1, each first halfword of a Bl, with a second one and without.
func TestFarFirst(t *testing.T) {
	for h := 0xf000; h <= 0xf7ff; h++ {
		first := uint16(h)
		refused(t, api.ErrShort, first)
		for _, second := range []uint16{0xd000, 0xd800, 0xf000, 0xfabc} {
			checkFarBack(t, first, second)
		}
		for _, second := range []uint16{0, 0xbf00, 0x9000, 0xc000, 0xe000, 0xf000 ^ 1<<12} {
			refused(t, api.ErrOp, first, second)
		}
	}
}

// TestFarSecond: 14.1, each halfword behind a Bl's first one: 11j1k begins it, or
// it is none.
func TestFarSecond(t *testing.T) {
	for n := range 1 << 16 {
		second := uint16(n)
		for _, first := range []uint16{0xf000, 0xf7ff, 0xf555} {
			if second>>14 == 0b11 && second>>12&1 == 1 {
				checkFarBack(t, first, second)
			} else {
				refused(t, api.ErrOp, first, second)
				refused(t, api.ErrOp, first, second, 0xf800)
			}
		}
	}
}

// checkFarBack checks that both halfwords are one Bl, whose halfwords they are.
func checkFarBack(t *testing.T, first, second uint16) {
	t.Helper()
	i, n, e := thumb.Decode([]uint16{first, second, 0xdead})
	if e != api.OK || n != 2 || !allowed(far(), i) || i != (thumb.Ins{Op: thumb.Bl, Imm: i.Imm}) {
		t.Errorf("14.1: Decode(%04x %04x): %+v, %d, %d", first, second, i, n, e)
		return
	}
	if words := farWords(i.Imm); words != [2]uint16{first, second} {
		t.Errorf("14.1: Decode(%04x %04x): Bl %d", first, second, i.Imm)
	}
}

// TestEmpty: 14.1, nothing is too short; so is half a Bl, whatever stands in its
// spare room.
func TestEmpty(t *testing.T) {
	refused(t, api.ErrShort)
	refused(t, api.ErrShort, []uint16{}...)
	refused(t, api.ErrShort, []uint16{0x2105}[:0]...)
	refused(t, api.ErrShort, []uint16{0xf000, 0xf800}[:1]...)
}

// TestNewMemory: R2, what is read is not changed, nor its spare room; what is
// laid is new memory.
func TestNewMemory(t *testing.T) {
	for _, h := range [][]uint16{{0x2105, 7, 8}, {0xf000, 0xf800, 9}, {0xde00, 1, 2}, {0xf000, 0, 1}} {
		for n := range h {
			kept := slices.Clone(h)
			thumb.Decode(h[:n])
			if !slices.Equal(h, kept) {
				t.Errorf("R2: Decode turned %04x to %04x", kept, h)
			}
		}
	}
	for _, i := range []thumb.Ins{{Op: thumb.Nop}, {Op: thumb.MovI, D: 1, Imm: 5}, {Op: thumb.Bl, Imm: -4}} {
		one, _ := thumb.Encode(i)
		want := slices.Clone(one)
		other, _ := thumb.Encode(i)
		for at := range one[:cap(one)] {
			one[:cap(one)][at] = 0xffff
		}
		again, _ := thumb.Encode(i)
		if !slices.Equal(other, want) || !slices.Equal(again, want) {
			t.Errorf("R2: Encode(%+v): %04x, %04x, not %04x", i, other, again, want)
		}
	}
}

// TestSeveral: 14.1, halfwords one behind the other are read one by one.
func TestSeveral(t *testing.T) {
	all := []thumb.Ins{{Op: thumb.Push, Imm: 256}, {Op: thumb.Bl, Imm: 100}, {Op: thumb.LsrI, Imm: 32}, {Op: thumb.Bl, Imm: -1 << 24}, {Op: thumb.Pop, Imm: 256}}
	h := []uint16{}
	for _, i := range all {
		words, e := thumb.Encode(i)
		if e != api.OK {
			t.Errorf("14.1: Encode(%+v): %d", i, e)
		}
		h = append(h, words...)
	}
	for _, want := range all {
		got, n, e := thumb.Decode(h)
		if e != api.OK || got != want || 2*n != thumb.Size(want) {
			t.Fatalf("14.1: %+v, %d, %d, not %+v", got, n, e, want)
		}
		h = h[n:]
	}
	refused(t, api.ErrShort, h...)
}
