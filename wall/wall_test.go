package wall_test

import (
	"bytes"
	"math"
	"testing"

	"taciturn/api"
	"taciturn/heap"
	"taciturn/sample"
	"taciturn/wall"
)

// spare is what is laid behind a list to see whether its spare room is turned.
const spare = 77

// people are owners and applets: the card, applets, and numbers that are none's,
// though some have another one's lowest bits.
func people() []int {
	return []int{math.MinInt, -2, -1, 0, 1, 2, api.MaxApplets - 1, api.MaxApplets, 1 << 8, 1<<32 - 1, 1 << 32, 1<<32 + 1, math.MaxInt}
}

// lengths are those of arrays, the shortest and the longest among them.
func lengths() []int {
	return []int{0, 1, 4, api.MaxArray - 1, api.MaxArray}
}

// places are those around the two ends of an array, and far from them.
func places(length int) []int {
	return []int{math.MinInt, math.MinInt + length, -1 << 32, -length, -2, -1, 0, 1, 2,
		length - 1, length, length + 1, length + 2, 2 * length, api.MaxArray, api.MaxArray + 1,
		1<<31 - 1, 1 << 31, 1<<32 - 1, 1 << 32, 1<<32 + 1, 1<<62 - 1, 1 << 62,
		math.MaxInt - length, math.MaxInt - 1, math.MaxInt}
}

// made answers a new heap with room for all that a test makes.
func made(t *testing.T) *heap.Heap {
	t.Helper()
	h, e := heap.New(api.MaxHeap)
	if e != api.OK {
		t.Fatalf("8.1: New: %d", e)
	}
	return h
}

// alloc answers the ref of a new array that h has to make.
func alloc(t *testing.T, h *heap.Heap, owner int, share bool, n int) int {
	t.Helper()
	ref, ok := h.Alloc(owner, api.SecArr, 0, share, n)
	if !ok {
		t.Fatalf("8.1: Alloc of %d: %d, false", n, ref)
	}
	return ref
}

// checks holds Check, and Range of no bytes, which asks no more of any array.
func checks(t *testing.T, h *heap.Heap, ref, applet, want int) {
	t.Helper()
	if got := wall.Check(h, ref, applet); got != want {
		t.Errorf("9.1: Check(%d, %d): %x, not %x", ref, applet, got, want)
	}
	ranges(t, h, ref, 0, 0, applet, want)
}

// ranges holds Range.
func ranges(t *testing.T, h *heap.Heap, ref, at, n, applet, want int) {
	t.Helper()
	if got := wall.Range(h, ref, at, n, applet); got != want {
		t.Errorf("9.1: Range(%d, %d, %d, %d): %x, not %x", ref, at, n, applet, got, want)
	}
}

// open tells whether 9.1 lets an applet touch what an owner has.
func open(owner, applet int, share bool) bool {
	return share || owner == -1 || owner == applet
}

// status answers Check's, of an array that is there.
func status(owner, applet int, share bool) int {
	if open(owner, applet, share) {
		return api.Fine
	}
	return api.Wall
}

// TestExample: the chapter's row.
func TestExample(t *testing.T) {
	if got := wall.Check(made(t), 0, 1); got != api.Null {
		t.Errorf("9.1: Check(h, 0, 1): %x", got)
	}
}

// TestMay: 9.1, the card's own, one's own, and what is shared; nothing else.
func TestMay(t *testing.T) {
	rows := []struct {
		owner, applet int
		share, may    bool
	}{
		{-1, 0, false, true},
		{-1, 3, false, true},
		{-1, -1, false, true},
		{-1, -2, false, true},
		{-1, 2, true, true},
		{2, 2, false, true},
		{2, 2, true, true},
		{0, 0, false, true},
		{2, 1, true, true},
		{0, 3, true, true},
		{1, -1, true, true},
		{2, 1, false, false},
		{1, 2, false, false},
		{0, 1, false, false},
		{0, -1, false, false},
		{1, -1, false, false},
		{-2, 0, false, false},
		{-2, -1, false, false},
		{1, 1<<32 + 1, false, false},
		{1<<32 - 1, 0, false, false},
	}
	for _, r := range rows {
		if may := wall.May(api.Array{Owner: r.owner, Share: r.share}, r.applet); may != r.may {
			t.Errorf("9.1: May of %d's array, shared %t, applet %d: %t", r.owner, r.share, r.applet, may)
		}
	}
}

// TestMayAll: 9.1, of all owners and applets, whatever else the array is.
func TestMayAll(t *testing.T) {
	for _, owner := range people() {
		for _, applet := range people() {
			for _, share := range []bool{false, true} {
				for _, number := range []int{-1, 0, 1, api.PubArr, api.SecArr, 99} {
					a := api.Array{Owner: owner, Label: number, Life: number, Share: share, Data: make([]byte, number&7)}
					if may := wall.May(a, applet); may != open(owner, applet, share) {
						t.Errorf("9.1: May of %+v, applet %d: %t", a, applet, may)
					}
				}
			}
		}
	}
}

// TestMayKeepsArray: R2, what is handed in is not changed, its spare room included.
func TestMayKeepsArray(t *testing.T) {
	data := []byte{1, 2, spare, spare}
	for _, applet := range people() {
		wall.May(api.Array{Owner: 1, Label: api.SecArr, Life: 2, Data: data[:2]}, applet)
	}
	if !bytes.Equal(data, []byte{1, 2, spare, spare}) {
		t.Errorf("R2: %v", data)
	}
}

// TestCheckNull: 9.1, refs that are no array's, to whomever.
func TestCheckNull(t *testing.T) {
	h := made(t)
	last := h.Count()
	for range 3 {
		for _, ref := range []int{math.MinInt, -last, -3, -1, 0, last + 1, last + 2, 1<<8 + 1, 1 << 32, 1<<32 + 1, math.MaxInt} {
			for _, applet := range people() {
				checks(t, h, ref, applet, api.Null)
			}
		}
		last = alloc(t, h, -1, true, 1)
	}
}

// TestCheckBuffers: 9.1, the card's own, whatever is in them, are open to all.
func TestCheckBuffers(t *testing.T) {
	h := made(t)
	for _, length := range lengths() {
		for _, ref := range []int{heap.PublicBuffer, heap.SecretBuffer} {
			if !h.SetBuffer(ref, make([]byte, length)) {
				t.Fatalf("8.1: SetBuffer(%d) of %d", ref, length)
			}
			for _, applet := range people() {
				checks(t, h, ref, applet, api.Fine)
			}
		}
	}
}

// TestCheckArrays: 9.1, arrays of every owner, shared and not, of every label and
// life, by every applet.
func TestCheckArrays(t *testing.T) {
	for _, owner := range people() {
		for _, share := range []bool{false, true} {
			h := made(t)
			for _, label := range []int{api.PubArr, api.SecArr} {
				for life := range 3 {
					for _, length := range lengths() {
						ref, ok := h.Alloc(owner, label, life, share, length)
						if !ok {
							t.Fatalf("8.1: Alloc: %d, false", ref)
						}
						for _, applet := range people() {
							checks(t, h, ref, applet, status(owner, applet, share))
						}
					}
				}
			}
		}
	}
}

// TestNoHeap: R1, a heap that is none is told of ahead of all else.
func TestNoHeap(t *testing.T) {
	for _, ref := range []int{math.MinInt, -1, 0, 1, 2, 3, math.MaxInt} {
		for _, applet := range people() {
			checks(t, nil, ref, applet, api.NotNow)
			ranges(t, nil, ref, -1, 99, applet, api.NotNow)
		}
	}
}

// TestRange: 9.1, an array of four bytes, in and beyond its ends.
func TestRange(t *testing.T) {
	rows := []struct{ at, n, want int }{
		{0, 0, api.Fine},
		{0, 1, api.Fine},
		{0, 4, api.Fine},
		{1, 3, api.Fine},
		{2, 2, api.Fine},
		{3, 1, api.Fine},
		{4, 0, api.Fine},
		{0, 5, api.Bounds},
		{1, 4, api.Bounds},
		{3, 2, api.Bounds},
		{4, 1, api.Bounds},
		{5, 0, api.Bounds},
		{-1, 0, api.Bounds},
		{-1, 1, api.Bounds},
		{-1, 5, api.Bounds},
		{0, -1, api.Bounds},
		{1, -1, api.Bounds},
		{4, -4, api.Bounds},
		{5, -1, api.Bounds},
		{-1, -1, api.Bounds},
		{1, math.MaxInt, api.Bounds},
		{math.MaxInt, 1, api.Bounds},
		{math.MaxInt, math.MaxInt, api.Bounds},
		{math.MinInt, math.MinInt, api.Bounds},
		{math.MinInt, math.MaxInt, api.Bounds},
		{math.MaxInt, math.MinInt, api.Bounds},
		{1 << 62, 1 << 62, api.Bounds},
		{1<<32 + 1, 1, api.Bounds},
		{1, 1<<32 + 1, api.Bounds},
	}
	h := made(t)
	ref := alloc(t, h, 1, false, 4)
	for _, r := range rows {
		ranges(t, h, ref, r.at, r.n, 1, r.want)
	}
}

// inside tells whether n bytes from at on are all there, byte by byte.
func inside(h *heap.Heap, ref, at, n, length int) bool {
	if at < 0 || n < 0 || at > length || n > length {
		return false
	}
	for i := range n {
		if _, ok := h.Get(ref, at+i); !ok {
			return false
		}
	}
	return true
}

// TestRangeAll: 9.1, arrays and buffers of every length: what Get finds byte by
// byte is Fine, all else is Bounds.
func TestRangeAll(t *testing.T) {
	for _, length := range lengths() {
		h := made(t)
		h.SetBuffer(heap.PublicBuffer, make([]byte, length))
		h.SetBuffer(heap.SecretBuffer, make([]byte, length))
		refs := []int{heap.PublicBuffer, heap.SecretBuffer, alloc(t, h, 2, false, length), alloc(t, h, 1, true, length)}
		for _, ref := range refs {
			for _, at := range places(length) {
				for _, n := range places(length) {
					want := api.Bounds
					if inside(h, ref, at, n, length) {
						want = api.Fine
					}
					ranges(t, h, ref, at, n, 2, want)
				}
			}
		}
	}
}

// TestRangeOrder: 9.1 and R3, Null and Wall ahead of Bounds, whatever at and n are.
func TestRangeOrder(t *testing.T) {
	h := made(t)
	ref := alloc(t, h, 1, false, 4)
	for _, at := range places(4) {
		for _, n := range places(4) {
			for _, none := range []int{-1, 0, ref + 1} {
				ranges(t, h, none, at, n, 1, api.Null)
			}
			for _, applet := range []int{-1, 0, 2} {
				ranges(t, h, ref, at, n, applet, api.Wall)
			}
		}
	}
}

// TestBufferTurns: 9.1, beyond a buffer's end is beyond what it has now.
func TestBufferTurns(t *testing.T) {
	h := made(t)
	for _, ref := range []int{heap.PublicBuffer, heap.SecretBuffer} {
		for _, length := range []int{0, 3, 64, 1, 0} {
			h.SetBuffer(ref, make([]byte, length))
			ranges(t, h, ref, 0, length, 0, api.Fine)
			ranges(t, h, ref, length, 0, 0, api.Fine)
			ranges(t, h, ref, 0, length+1, 0, api.Bounds)
			ranges(t, h, ref, length+1, 0, 0, api.Bounds)
		}
	}
}

// alike tells whether a and b are the same array.
func alike(a, b api.Array) bool {
	return a.Owner == b.Owner && a.Label == b.Label && a.Life == b.Life && a.Share == b.Share && bytes.Equal(a.Data, b.Data)
}

// same holds that two heaps tell the same.
func same(t *testing.T, h, other *heap.Heap) {
	t.Helper()
	if h.Count() != other.Count() || h.Used() != other.Used() {
		t.Fatalf("9.1: %d arrays of %d, not %d of %d", h.Count(), h.Used(), other.Count(), other.Used())
	}
	for ref := range h.Count() + 1 {
		a, ok := h.Array(ref)
		b, there := other.Array(ref)
		if ok != there || !alike(a, b) {
			t.Errorf("9.1: array %d: %+v, not %+v", ref, a, b)
		}
	}
}

// TestByDice: 9.1, R2 and R4, heaps and calls by a fixed rule: what is asked hangs
// on the array as it stands, be it zeroed or copied, and turns nothing.
func TestByDice(t *testing.T) {
	for start := range 100 {
		dice := sample.NewDice(uint64(start))
		h := made(t)
		h.SetBuffer(heap.PublicBuffer, make([]byte, dice.UpTo(api.MaxBuffer)))
		for range dice.UpTo(30) {
			ref, ok := h.Alloc(dice.UpTo(4)-1, api.PubArr, dice.UpTo(2), dice.UpTo(2) == 0, dice.UpTo(api.MaxArray))
			if !ok {
				t.Fatalf("8.1: Alloc: %d, false", ref)
			}
			h.Put(ref, 0, spare)
		}
		before := h.Copy()
		for range 200 {
			ref, at, n, applet := dice.UpTo(h.Count()+1), dice.UpTo(68)-2, dice.UpTo(40)-2, dice.UpTo(5)-1
			want := asked(h, ref, applet)
			if got := wall.Check(h, ref, applet); got != want {
				t.Errorf("9.1: Check(%d, %d): %x, not %x", ref, applet, got, want)
			}
			if want == api.Fine && !held(h, ref, at, n) {
				want = api.Bounds
			}
			ranges(t, h, ref, at, n, applet, want)
		}
		same(t, h, before)
		h.Clear(1, 0)
		for ref := range h.Count() + 1 {
			checks(t, h, ref, 1, asked(before, ref, 1))
			checks(t, before, ref, 1, asked(before, ref, 1))
		}
	}
}

// asked answers Check's status, worked out apart from the package.
func asked(h *heap.Heap, ref, applet int) int {
	a, ok := h.Array(ref)
	if !ok {
		return api.Null
	}
	return status(a.Owner, applet, a.Share)
}

// held tells whether n bytes from at on are in an array that is there.
func held(h *heap.Heap, ref, at, n int) bool {
	a, _ := h.Array(ref)
	return inside(h, ref, at, n, len(a.Data))
}
