package heap_test

import (
	"bytes"
	"math"
	"testing"

	"taciturn/api"
	"taciturn/heap"
	"taciturn/sample"
)

// owners are those of whom filled has arrays: the card, and two applets.
func owners() []int {
	return []int{-1, 0, 3}
}

// filled answers a heap with bytes in both buffers, and in an array of each owner,
// life and label; and those arrays, that of ref 1 ahead.
func filled(t *testing.T) (*heap.Heap, []api.Array) {
	t.Helper()
	h := made(t, 1000)
	all := []api.Array{buffer(1, counted(4)), buffer(2, counted(5))}
	h.SetBuffer(1, counted(4))
	h.SetBuffer(2, counted(5))
	for _, owner := range owners() {
		for life := range 3 {
			for _, label := range []int{api.PubArr, api.SecArr} {
				a := api.Array{Owner: owner, Label: label, Life: life, Share: life == 1, Data: counted(2 + label)}
				lay(t, h, alloc(t, h, a), a.Data)
				all = append(all, a)
			}
		}
	}
	return h, all
}

// zeroed answers all with zeros in those that are forgotten, and how many that are.
func zeroed(all []api.Array, forgotten func(a api.Array) bool) ([]api.Array, int) {
	left, count := []api.Array{}, 0
	for _, a := range all {
		if forgotten(a) {
			a.Data = make([]byte, len(a.Data))
			count++
		}
		left = append(left, a)
	}
	return left, count
}

// TestClear: 8.1 and W4, a reset zeroes all of life 1 and 2, a deselect one
// owner's of life 2, any other life nothing; each tells how many.
func TestClear(t *testing.T) {
	strangers := []int{math.MinInt, -2, -1, 0, 3, 4, 5, 1<<32 + 1, 1<<32 + 2, math.MaxInt}
	for _, owner := range []int{math.MinInt, -2, -1, 0, 1, 3, 4, math.MaxInt} {
		h, all := filled(t)
		for _, life := range strangers {
			if n := h.Clear(life, owner); n != 0 {
				t.Errorf("8.1: Clear(%d, %d): %d", life, owner, n)
			}
		}
		holds(t, "behind a Clear of no life", h, all)
		want, count := zeroed(all, func(a api.Array) bool { return a.Life == 2 && a.Owner == owner })
		if n := h.Clear(2, owner); n != count {
			t.Errorf("8.1: Clear(2, %d): %d, not %d", owner, n, count)
		}
		holds(t, "behind a deselect", h, want)
		want, count = zeroed(want, func(a api.Array) bool { return a.Life == 1 || a.Life == 2 })
		if n := h.Clear(1, owner); n != count || n != 4*len(owners()) {
			t.Errorf("8.1: Clear(1, %d): %d, not %d", owner, n, count)
		}
		holds(t, "behind a reset", h, want)
	}
}

// TestClearReset: 8.1, a reset alone, with bytes in all arrays.
func TestClearReset(t *testing.T) {
	h, all := filled(t)
	want, _ := zeroed(all, func(a api.Array) bool { return a.Life == 1 || a.Life == 2 })
	if n := h.Clear(1, 0); n != 4*len(owners()) {
		t.Errorf("8.1: Clear(1, 0): %d", n)
	}
	holds(t, "behind a reset", h, want)
}

// TestClearCounts: 8.1, an array without bytes, or of zeros, is zeroed too; of
// none there are 0; what is zeroed is there, takes its room, and may be put into.
func TestClearCounts(t *testing.T) {
	h := made(t, 64)
	h.SetBuffer(1, counted(3))
	if h.Clear(1, 0) != 0 || h.Clear(2, -1) != 0 {
		t.Error("8.1: Clear without arrays")
	}
	longest := api.Array{Owner: 1, Label: api.SecArr, Life: 2, Data: counted(48)}
	lay(t, h, alloc(t, h, longest), longest.Data)
	empty := api.Array{Owner: 1, Label: api.PubArr, Life: 2}
	alloc(t, h, empty)
	for range 2 {
		if n, m := h.Clear(2, 1), h.Clear(1, 5); n != 2 || m != 2 {
			t.Errorf("8.1: Clear: %d, %d", n, m)
		}
	}
	longest.Data = make([]byte, 48)
	holds(t, "behind Clear", h, []api.Array{buffer(1, counted(3)), buffer(2, nil), longest, empty})
	if ref, ok := h.Alloc(1, api.SecArr, 0, false, 0); ref != 0 || ok {
		t.Errorf("8.1: Alloc behind Clear: %d, %t", ref, ok)
	}
	lay(t, h, 3, counted(48))
	longest.Data = counted(48)
	holds(t, "behind Put", h, []api.Array{buffer(1, counted(3)), buffer(2, nil), longest, empty})
}

// TestCopy: 8.1, another heap, the same; then what one is told the other doesn't
// know, whichever it is.
func TestCopy(t *testing.T) {
	for _, first := range []bool{false, true} {
		h, all := filled(t)
		copied := h.Copy()
		if copied == nil || copied == h {
			t.Fatal("8.1: Copy")
		}
		holds(t, "a copy", copied, all)
		turned, kept := h, copied
		if first {
			turned, kept = copied, h
		}
		for ref := 1; ref <= len(all); ref++ {
			if !turned.Put(ref, 0, spare) {
				t.Errorf("8.1: Put into a copy's array %d: false", ref)
			}
		}
		holds(t, "behind the other one's Put", kept, all)
		turned.Clear(1, 0)
		turned.SetBuffer(1, counted(9))
		turned.SetBuffer(2, nil)
		if ref, ok := turned.Alloc(2, api.PubArr, 0, true, 1); ref != len(all)+1 || !ok {
			t.Errorf("8.1: a copy's Alloc: %d, %t", ref, ok)
		}
		holds(t, "behind the other one's Clear, SetBuffer and Alloc", kept, all)
		another := api.Array{Owner: 7, Label: api.SecArr, Life: 2, Data: make([]byte, 2)}
		if ref := alloc(t, kept, another); ref != len(all)+1 {
			t.Errorf("8.1: Alloc: %d", ref)
		}
		holds(t, "behind both Allocs", kept, append(all, another))
		if got, ok := turned.Array(len(all) + 1); !ok || got.Owner != 2 {
			t.Errorf("8.1: the other one's new array: %+v, %t", got, ok)
		}
	}
}

// TestCopyRoom: 8.1, a copy has the size, and so what is left of it.
func TestCopyRoom(t *testing.T) {
	for size := api.MinHeap; size <= 200; size++ {
		h := made(t, size)
		holds(t, "a new one's copy", h.Copy(), []api.Array{buffer(1, nil), buffer(2, nil)})
		alloc(t, h, api.Array{Label: api.PubArr, Data: make([]byte, 20)})
		for n := range api.MaxArray + 1 {
			want := 0
			if 28+8+n <= size {
				want = 4
			}
			if ref, ok := h.Copy().Copy().Alloc(0, api.PubArr, 0, false, n); ref != want || ok != (want > 0) {
				t.Errorf("8.1: size %d: a copy's Alloc of %d: %d, %t", size, n, ref, ok)
			}
		}
		if h.Used() != 28 || h.Count() != 3 {
			t.Errorf("8.1: size %d: behind its copies: Used %d, Count %d", size, h.Used(), h.Count())
		}
	}
}

// diary is a heap as 8.1 tells it, written down apart from the package.
type diary struct {
	left   int
	arrays []api.Array
}

// alloc answers as Alloc must.
func (d *diary) alloc(a api.Array, n int) (int, bool) {
	labelled := a.Label == api.PubArr || a.Label == api.SecArr
	if !labelled || a.Life < 0 || a.Life > 2 || n < 0 || n > 64 || 8+n > d.left {
		return 0, false
	}
	a.Data = make([]byte, n)
	d.left -= 8 + n
	d.arrays = append(d.arrays, a)
	return len(d.arrays), true
}

// byteAt answers where a byte of an array is; nil, if it is not there.
func (d *diary) byteAt(ref, at int) *byte {
	if ref < 1 || ref > len(d.arrays) || at < 0 || at >= len(d.arrays[ref-1].Data) {
		return nil
	}
	return &d.arrays[ref-1].Data[at]
}

// setBuffer answers as SetBuffer must.
func (d *diary) setBuffer(ref int, b []byte) bool {
	if ref < 1 || ref > 2 || len(b) > 64 {
		return false
	}
	d.arrays[ref-1].Data = bytes.Clone(b)
	return true
}

// clear answers as Clear must.
func (d *diary) clear(life, owner int) int {
	left, count := zeroed(d.arrays, func(a api.Array) bool {
		return life == 1 && a.Life > 0 || life == 2 && a.Life == 2 && a.Owner == owner
	})
	d.arrays = left
	return count
}

// TestByDice: 8.1, calls by a fixed rule, each held against a diary; now and then
// the heap goes on as its copy.
func TestByDice(t *testing.T) {
	for start := range 60 {
		dice := sample.NewDice(uint64(start))
		size := api.MinHeap + dice.UpTo(600)
		h := made(t, size)
		d := &diary{left: size, arrays: []api.Array{buffer(1, nil), buffer(2, nil)}}
		for range 300 {
			tell(t, dice, h, d)
			if dice.UpTo(20) == 0 {
				h = h.Copy()
			}
			if dice.UpTo(30) == 0 {
				holds(t, "by dice", h, d.arrays)
			}
		}
		holds(t, "by dice", h, d.arrays)
	}
}

// tell makes one call of h, and holds its answer against d's.
func tell(t *testing.T, dice *sample.Dice, h *heap.Heap, d *diary) {
	t.Helper()
	ref, at, b := dice.UpTo(len(d.arrays)+1), dice.UpTo(66)-1, byte(dice.UpTo(255))
	switch dice.UpTo(9) {
	case 0, 1:
		a := api.Array{Owner: dice.UpTo(4) - 1, Label: 2 + dice.UpTo(3), Life: dice.UpTo(4) - 1, Share: dice.UpTo(1) == 0}
		got, ok := h.Alloc(a.Owner, a.Label, a.Life, a.Share, at)
		if want, may := d.alloc(a, at); got != want || ok != may {
			t.Errorf("8.1: Alloc of %+v, %d bytes: %d, %t, not %d", a, at, got, ok, want)
		}
	case 2:
		data := bytes.Repeat([]byte{b}, max(at, 0))
		if got, want := h.SetBuffer(ref, data), d.setBuffer(ref, data); got != want {
			t.Errorf("8.1: SetBuffer(%d), %d bytes: %t", ref, at, got)
		}
	case 3:
		life, owner := dice.UpTo(3), dice.UpTo(4)-1
		if got, want := h.Clear(life, owner), d.clear(life, owner); got != want {
			t.Errorf("8.1: Clear(%d, %d): %d, not %d", life, owner, got, want)
		}
	default:
		there := d.byteAt(ref, at)
		if ok := h.Put(ref, at, b); ok != (there != nil) {
			t.Errorf("8.1: Put(%d, %d): %t", ref, at, ok)
		}
		if there != nil {
			*there = b
		}
	}
}
