package heap_test

import (
	"bytes"
	"math"
	"testing"

	"taciturn/api"
	"taciturn/heap"
)

// spare is what is laid into a list to see who else has its memory.
const spare = 77

// made answers a new heap of a size that may be.
func made(t *testing.T, size int) *heap.Heap {
	t.Helper()
	h, e := heap.New(size)
	if e != api.OK || h == nil {
		t.Fatalf("8.1: New(%d): %v, %d", size, h, e)
	}
	return h
}

// alloc answers the ref of a new array that h has to make.
func alloc(t *testing.T, h *heap.Heap, a api.Array) int {
	t.Helper()
	ref, ok := h.Alloc(a.Owner, a.Label, a.Life, a.Share, len(a.Data))
	if !ok {
		t.Fatalf("8.1: Alloc of %+v: %d, false", a, ref)
	}
	return ref
}

// lay puts b into an array from its front on.
func lay(t *testing.T, h *heap.Heap, ref int, b []byte) {
	t.Helper()
	for at, n := range b {
		if !h.Put(ref, at, n) {
			t.Fatalf("8.1: Put(%d, %d): false", ref, at)
		}
	}
}

// counted answers n bytes that are not 0, different from their neighbours.
func counted(n int) []byte {
	b := make([]byte, n)
	for i := range b {
		b[i] = byte(i + 1)
	}
	return b
}

// alike tells whether a and b are the same array; nil and empty bytes are.
func alike(a, b api.Array) bool {
	return a.Owner == b.Owner && a.Label == b.Label && a.Life == b.Life && a.Share == b.Share && bytes.Equal(a.Data, b.Data)
}

// buffer answers what a buffer's array is, with those bytes.
func buffer(ref int, b []byte) api.Array {
	if ref == heap.PublicBuffer {
		return api.Array{Owner: -1, Label: api.PubArr, Data: b}
	}
	return api.Array{Owner: -1, Label: api.SecArr, Data: b}
}

// holds holds all that h tells against a list of its arrays, that of ref 1 ahead.
func holds(t *testing.T, when string, h *heap.Heap, want []api.Array) {
	t.Helper()
	used := 0
	for at, a := range want {
		if got, ok := h.Array(at + 1); !ok || !alike(got, a) {
			t.Errorf("8.1: %s: Array(%d): %+v, %t, not %+v", when, at+1, got, ok, a)
		}
		for i, n := range a.Data {
			if got, ok := h.Get(at+1, i); got != n || !ok {
				t.Errorf("8.1: %s: Get(%d, %d): %d, %t, not %d", when, at+1, i, got, ok, n)
			}
		}
		if at >= 2 {
			used += 8 + len(a.Data)
		}
	}
	if h.Count() != len(want) || h.Used() != used {
		t.Errorf("8.1: %s: Count %d, not %d; Used %d, not %d", when, h.Count(), len(want), h.Used(), used)
	}
	for _, ref := range []int{math.MinInt, -1, 0, len(want) + 1, math.MaxInt} {
		hasNone(t, when, h, ref)
	}
}

// hasNone holds h's answers of a ref that is none against 8.1 and R3.
func hasNone(t *testing.T, when string, h *heap.Heap, ref int) {
	t.Helper()
	if a, ok := h.Array(ref); ok || !alike(a, api.Array{}) {
		t.Errorf("8.1: %s: Array(%d): %+v, %t", when, ref, a, ok)
	}
	if b, ok := h.Get(ref, 0); b != 0 || ok {
		t.Errorf("8.1: %s: Get(%d, 0): %d, %t", when, ref, b, ok)
	}
	if h.Put(ref, 0, 1) {
		t.Errorf("8.1: %s: Put(%d, 0): true", when, ref)
	}
}

// TestExample: the chapter's row.
func TestExample(t *testing.T) {
	h := made(t, 64)
	if ref, ok := h.Alloc(0, api.PubArr, 0, false, 56); ref != 3 || !ok {
		t.Errorf("8.1: Alloc of 56: %d, %t", ref, ok)
	}
	if ref, ok := h.Alloc(0, api.PubArr, 0, false, 0); ref != 0 || ok {
		t.Errorf("8.1: Alloc of 0: %d, %t", ref, ok)
	}
}

// TestNewSizes: 8.1, New of MinHeap to MaxHeap; of others ErrArg and none.
func TestNewSizes(t *testing.T) {
	for _, size := range []int{api.MinHeap, api.MinHeap + 1, 100, 1000, api.MaxHeap - 1, api.MaxHeap} {
		if h, e := heap.New(size); h == nil || e != api.OK {
			t.Errorf("8.1: New(%d): %v, %d", size, h, e)
		}
	}
	for _, size := range []int{math.MinInt, -api.MinHeap, -1, 0, 1, api.MinHeap - 1, api.MaxHeap + 1, 1<<32 + api.MinHeap, math.MaxInt} {
		if h, e := heap.New(size); h != nil || e != api.ErrArg {
			t.Errorf("8.1: New(%d): %v, %d", size, h, e)
		}
	}
}

// TestNewBuffers: 8.1, a new heap has the two buffers, empty, and no more.
func TestNewBuffers(t *testing.T) {
	if heap.PublicBuffer != 1 || heap.SecretBuffer != 2 {
		t.Errorf("8.1: refs %d and %d", heap.PublicBuffer, heap.SecretBuffer)
	}
	for _, size := range []int{api.MinHeap, api.MaxHeap} {
		holds(t, "at first", made(t, size), []api.Array{
			{Owner: -1, Label: api.PubArr, Life: 0, Share: false},
			{Owner: -1, Label: api.SecArr, Life: 0, Share: false},
		})
	}
}

// TestAllocMakes: 8.1, refs from 3 on, each array as it was asked for, of bytes 0.
func TestAllocMakes(t *testing.T) {
	h := made(t, api.MaxHeap)
	want := []api.Array{buffer(1, nil), buffer(2, nil)}
	lengths := []int{0, 1, 2, 31, 63, api.MaxArray}
	for _, label := range []int{api.PubArr, api.SecArr} {
		for life := range 3 {
			for i, owner := range []int{math.MinInt, -1, 0, 1, api.MaxApplets - 1, math.MaxInt} {
				a := api.Array{Owner: owner, Label: label, Life: life, Share: (i+life)%2 == 0, Data: make([]byte, lengths[(i+label)%len(lengths)])}
				if ref := alloc(t, h, a); ref != len(want)+1 {
					t.Errorf("8.1: Alloc: %d, not %d", ref, len(want)+1)
				}
				want = append(want, a)
			}
		}
	}
	holds(t, "behind Alloc", h, want)
}

// asked is what Alloc is asked for.
type asked struct{ label, life, n int }

// TestAllocRefuses: 8.1, what no array may be: 0, false, and nothing is turned.
func TestAllocRefuses(t *testing.T) {
	cases := []asked{}
	for _, label := range []int{math.MinInt, -api.PubArr, -1, 0, api.PubInt, api.SecInt, 5, 6, 1<<8 + api.PubArr, 1<<32 + api.SecArr, math.MaxInt} {
		cases = append(cases, asked{label, 0, 1})
	}
	for _, life := range []int{math.MinInt, -2, -1, 3, 4, 5, 1 << 8, 1<<32 + 1, math.MaxInt} {
		cases = append(cases, asked{api.PubArr, life, 1})
	}
	for _, n := range []int{math.MinInt, -api.MaxArray, -8, -1, api.MaxArray + 1, api.MaxHeap, 1 << 32, math.MaxInt - 8, math.MaxInt - 7, math.MaxInt} {
		cases = append(cases, asked{api.SecArr, 2, n})
	}
	h := made(t, api.MaxHeap)
	for _, c := range cases {
		for _, share := range []bool{false, true} {
			if ref, ok := h.Alloc(0, c.label, c.life, share, c.n); ref != 0 || ok {
				t.Errorf("8.1: Alloc of %+v: %d, %t", c, ref, ok)
			}
		}
	}
	holds(t, "behind refusals", h, []api.Array{buffer(1, nil), buffer(2, nil)})
	if ref, ok := h.Alloc(0, api.PubArr, 0, false, 1); ref != 3 || !ok {
		t.Errorf("8.1: Alloc behind refusals: %d, %t", ref, ok)
	}
}

// TestAllocRoom: 8.1, an array takes 8 and its length, and the last byte may be
// taken; a refused one takes nothing.
func TestAllocRoom(t *testing.T) {
	cases := []struct {
		size int
		n    []int
		refs []int
	}{
		{64, []int{57, 56, 0}, []int{0, 3, 0}},
		{64, []int{64, 55, 0}, []int{0, 3, 0}},
		{64, []int{48, 1, 0, 0}, []int{3, 0, 4, 0}},
		{64, []int{10, 31, 30, 22, 0, 0}, []int{3, 4, 0, 0, 0, 0}},
		{64, []int{10, 31, 0, 0}, []int{3, 4, 0, 0}},
		{64, []int{10, 30, 0, 0}, []int{3, 4, 5, 0}},
		{64, []int{0, 0, 0, 0, 0, 0, 0, 0, 0}, []int{3, 4, 5, 6, 7, 8, 9, 10, 0}},
		{65, []int{58, 57, 0}, []int{0, 3, 0}},
		{71, []int{64, 63, 0}, []int{0, 3, 0}},
		{72, []int{64, 0}, []int{3, 0}},
		{79, []int{64, 0}, []int{3, 0}},
		{80, []int{64, 1, 0, 0}, []int{3, 0, 4, 0}},
		{144, []int{64, 64, 0}, []int{3, 4, 0}},
	}
	for _, c := range cases {
		h := made(t, c.size)
		used := 0
		for i, n := range c.n {
			ref, ok := h.Alloc(i, api.PubArr, i%3, false, n)
			if ref != c.refs[i] || ok != (ref > 0) {
				t.Errorf("8.1: size %d: Alloc %d, of %d: %d, %t", c.size, i, n, ref, ok)
			}
			if c.refs[i] > 0 {
				used += 8 + n
			}
			if h.Used() != used {
				t.Errorf("8.1: size %d: behind Alloc %d: Used %d, not %d", c.size, i, h.Used(), used)
			}
		}
	}
}

// TestAllocMany: 8.1, as many empty arrays as the greatest heap has room for.
func TestAllocMany(t *testing.T) {
	h := made(t, api.MaxHeap)
	for i := range api.MaxHeap / 8 {
		if ref, ok := h.Alloc(1, api.SecArr, 0, false, 0); ref != i+3 || !ok {
			t.Fatalf("8.1: Alloc %d: %d, %t", i, ref, ok)
		}
	}
	if ref, ok := h.Alloc(1, api.SecArr, 0, false, 0); ref != 0 || ok || h.Used() != api.MaxHeap || h.Count() != 2+api.MaxHeap/8 {
		t.Errorf("8.1: the full heap: %d, %t, Used %d, Count %d", ref, ok, h.Used(), h.Count())
	}
}

// TestUsedWithoutBuffers: 8.1, the buffers' bytes take none of the size, and an
// array of the buffers' owner is none of them.
func TestUsedWithoutBuffers(t *testing.T) {
	h := made(t, api.MinHeap)
	full := counted(api.MaxBuffer)
	if !h.SetBuffer(1, full) || !h.SetBuffer(2, full) || h.Used() != 0 || h.Count() != 2 {
		t.Errorf("8.1: with buffers: Used %d, Count %d", h.Used(), h.Count())
	}
	if ref, ok := h.Alloc(-1, api.PubArr, 0, false, 56); ref != 3 || !ok || h.Used() != 64 || h.Count() != 3 {
		t.Errorf("8.1: owner -1: %d, %t, Used %d, Count %d", ref, ok, h.Used(), h.Count())
	}
	if !h.SetBuffer(1, nil) || h.Used() != 64 {
		t.Errorf("8.1: a buffer that is emptied: Used %d", h.Used())
	}
}

// TestGetPut: 8.1, the byte that is put is got, at its place alone.
func TestGetPut(t *testing.T) {
	h := made(t, 200)
	for range 2 {
		alloc(t, h, api.Array{Label: api.SecArr, Life: 1, Data: make([]byte, 3)})
	}
	h.SetBuffer(1, make([]byte, 3))
	h.SetBuffer(2, make([]byte, 3))
	for ref := 1; ref <= 4; ref++ {
		for at := range 3 {
			for b := range 256 {
				if got, ok := h.Get(ref, at); !h.Put(ref, at, byte(b)) || !ok || got != byte(max(b-1, 0)) {
					t.Fatalf("8.1: Put(%d, %d, %d) behind Get: %d, %t", ref, at, b, got, ok)
				}
			}
			h.Put(ref, at, byte(10*ref+at))
		}
	}
	each := []byte{10, 11, 12, 20, 21, 22, 30, 31, 32, 40, 41, 42}
	array := api.Array{Label: api.SecArr, Life: 1}
	one, other := array, array
	one.Data, other.Data = each[6:9], each[9:]
	holds(t, "behind Put", h, []api.Array{buffer(1, each[:3]), buffer(2, each[3:6]), one, other})
}

// TestGetPutNone: 8.1 and R5, of a byte that is not there: false, and nothing.
func TestGetPutNone(t *testing.T) {
	h := made(t, 200)
	array := api.Array{Owner: 2, Label: api.PubArr, Share: true, Data: counted(4)}
	none := api.Array{Owner: 2, Label: api.SecArr}
	lay(t, h, alloc(t, h, array), array.Data)
	alloc(t, h, none)
	h.SetBuffer(2, counted(2))
	lengths := map[int]int{1: 0, 2: 2, 3: 4, 4: 0}
	for ref, n := range lengths {
		for _, at := range []int{math.MinInt, -4, -1, n, n + 1, 64, 1 << 32, math.MaxInt} {
			if b, ok := h.Get(ref, at); b != 0 || ok {
				t.Errorf("8.1: Get(%d, %d): %d, %t", ref, at, b, ok)
			}
			if h.Put(ref, at, 9) {
				t.Errorf("8.1: Put(%d, %d): true", ref, at)
			}
		}
	}
	holds(t, "behind refusals", h, []api.Array{buffer(1, nil), buffer(2, counted(2)), array, none})
}

// TestSetBuffer: 8.1, a buffer's bytes are b, whatever was there; the other
// buffer, and what a buffer is else, stays.
func TestSetBuffer(t *testing.T) {
	h := made(t, api.MinHeap)
	data := map[int][]byte{}
	for _, n := range []int{0, 1, 2, 63, api.MaxBuffer, 5, api.MaxBuffer, 0, 3} {
		for ref := 1; ref <= 2; ref++ {
			data[ref] = bytes.Repeat([]byte{byte(100*ref + n)}, n)
			if !h.SetBuffer(ref, data[ref]) {
				t.Errorf("8.1: SetBuffer(%d), %d bytes: false", ref, n)
			}
			holds(t, "behind SetBuffer", h, []api.Array{buffer(1, data[1]), buffer(2, data[2])})
		}
	}
	if !h.SetBuffer(1, nil) || !h.SetBuffer(2, []byte{}) {
		t.Error("8.1: SetBuffer of none: false")
	}
	holds(t, "behind SetBuffer of none", h, []api.Array{buffer(1, nil), buffer(2, nil)})
}

// TestSetBufferRefuses: 8.1, false of another ref, or of too many bytes, and
// nothing is turned.
func TestSetBufferRefuses(t *testing.T) {
	h := made(t, 200)
	array := api.Array{Owner: -1, Label: api.PubArr, Data: counted(2)}
	ref := alloc(t, h, array)
	lay(t, h, ref, array.Data)
	h.SetBuffer(1, counted(3))
	h.SetBuffer(2, counted(4))
	for _, ref := range []int{math.MinInt, -2, -1, 0, ref, ref + 1, 1<<32 + 1, math.MaxInt} {
		for _, b := range [][]byte{nil, {9, 9}} {
			if h.SetBuffer(ref, b) {
				t.Errorf("8.1: SetBuffer(%d, % x): true", ref, b)
			}
		}
	}
	for _, n := range []int{api.MaxBuffer + 1, 2 * api.MaxBuffer, 1 << 16} {
		if h.SetBuffer(1, make([]byte, n)) || h.SetBuffer(2, make([]byte, n)) || h.SetBuffer(3, make([]byte, n)) {
			t.Errorf("8.1: SetBuffer, %d bytes: true", n)
		}
	}
	holds(t, "behind refusals", h, []api.Array{buffer(1, counted(3)), buffer(2, counted(4)), array})
}

// TestMemory: R2, nothing is shared with what comes in or goes out.
func TestMemory(t *testing.T) {
	h := made(t, 200)
	array := api.Array{Label: api.SecArr, Data: counted(5)}
	lay(t, h, alloc(t, h, array), array.Data)
	given := []byte{1, 2, 3, 4, 5, 6}
	h.SetBuffer(1, given[1:3])
	h.SetBuffer(2, given[1:3])
	h.Put(1, 0, 20)
	if !bytes.Equal(given, []byte{1, 2, 3, 4, 5, 6}) {
		t.Errorf("R2: what was handed in was changed: % x", given)
	}
	given[1], given[2], given[3] = spare, spare, spare
	want := []api.Array{buffer(1, []byte{20, 3}), buffer(2, []byte{2, 3}), array}
	holds(t, "R2: behind what was handed in", h, want)
	for ref := 1; ref <= 3; ref++ {
		one, _ := h.Array(ref)
		other, _ := h.Array(ref)
		for i := range one.Data[:cap(one.Data)] {
			one.Data[:cap(one.Data)][i] = spare
		}
		if !alike(other, want[ref-1]) {
			t.Errorf("R2: two answers share: %+v", other)
		}
	}
	holds(t, "R2: behind what was answered", h, want)
	kept, _ := h.Array(3)
	h.Put(3, 0, 99)
	if !alike(kept, array) {
		t.Errorf("R2: an answer turns behind Put: %+v", kept)
	}
}

// TestHeapsApart: R7, what is told to one heap another one doesn't know.
func TestHeapsApart(t *testing.T) {
	one, other := made(t, 64), made(t, 64)
	zeros := api.Array{Label: api.PubArr, Life: 1, Data: make([]byte, 56)}
	full := zeros
	full.Data = counted(56)
	lay(t, one, alloc(t, one, full), full.Data)
	one.SetBuffer(1, counted(2))
	holds(t, "R7: one without calls", other, []api.Array{buffer(1, nil), buffer(2, nil)})
	alloc(t, other, zeros)
	holds(t, "R7: behind its own Alloc", other, []api.Array{buffer(1, nil), buffer(2, nil), zeros})
	other.Clear(1, 0)
	holds(t, "R7: behind another one's Clear", one, []api.Array{buffer(1, counted(2)), buffer(2, nil), full})
}
