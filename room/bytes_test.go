package room_test

import (
	"bytes"
	"math"
	"testing"

	"taciturn/api"
	"taciturn/code"
	"taciturn/heap"
	"taciturn/room"
)

// within tells whether n bytes from at on are in an array of that length.
func within(at, n int32, length int) bool {
	return at >= 0 && n >= 0 && int64(at)+int64(n) <= int64(length)
}

// TestCopy: 12.2, from every place to every place, of one array too, as if all
// bytes were copied at once; Bounds of what leads beyond an end.
func TestCopy(t *testing.T) {
	const length = 5
	ends := []int32{math.MinInt32, -1, 0, 1, 2, 3, 4, 5, 6, math.MaxInt32}
	for _, refs := range [][2]int32{{3, 4}, {3, 3}, {4, 3}, {1, 2}, {2, 1}, {1, 1}, {3, 1}, {2, 4}} {
		for _, to := range ends {
			for _, from := range ends {
				for _, n := range ends {
					copies(t, refs, to, from, n, length)
				}
			}
		}
	}
}

// pair answers a room whose buffers and first two arrays have length bytes, of
// which no two are alike.
func pair(t *testing.T, length int) *room.Room {
	t.Helper()
	r := made(t, 200)
	all := counted(4 * length)
	begin(t, r, all[:length], all[length:2*length])
	alloc(t, r, 0, api.SecArr, false, all[2*length:3*length])
	alloc(t, r, 0, api.PubArr, false, all[3*length:])
	return r
}

// copies holds one Copy, and what its two arrays, and all others, are behind it.
func copies(t *testing.T, refs [2]int32, to, from, n int32, length int) {
	t.Helper()
	r := pair(t, length)
	c := ask{0, code.Copy, 0, 0, []int32{refs[0], to, refs[1], from, n}}
	if !within(to, n, length) || !within(from, n, length) {
		refuses(t, r, c, api.Bounds, touch(refs[0], to, n), touch(refs[1], from, n))
		return
	}
	want := [5][]byte{}
	for ref := 1; ref <= 4; ref++ {
		want[ref] = counted(4 * length)[(ref-1)*length : ref*length]
	}
	old := bytes.Clone(want[refs[1]])
	for k := range n {
		want[refs[0]][to+k] = old[from+k]
	}
	serves(t, r, c, told{0, api.Fine, append(append([]api.Event(nil), touch(refs[0], to, n)), touch(refs[1], from, n))})
	for ref := 1; ref <= 4; ref++ {
		has(t, "behind Copy", r, ref, want[ref])
	}
}

// TestCopyLong: 12.2, all of the longest arrays, and of one that laps over itself.
func TestCopyLong(t *testing.T) {
	r := made(t, 400)
	long := counted(api.MaxArray)
	to := int32(alloc(t, r, 0, api.PubArr, false, make([]byte, api.MaxArray)))
	from := int32(alloc(t, r, 0, api.SecArr, false, long))
	serves(t, r, ask{0, code.Copy, 0, 0, []int32{to, 0, from, 0, 64}}, told{0, api.Fine, []api.Event{touch(to, 0, 64), touch(from, 0, 64)}})
	has(t, "behind Copy", r, int(to), long)
	serves(t, r, ask{0, code.Copy, 0, 0, []int32{to, 1, to, 0, 63}}, told{0, api.Fine, []api.Event{touch(to, 1, 63), touch(to, 0, 63)}})
	has(t, "behind Copy to the right", r, int(to), append([]byte{1}, long[:63]...))
	serves(t, r, ask{0, code.Copy, 0, 0, []int32{from, 0, from, 1, 63}}, told{0, api.Fine, []api.Event{touch(from, 0, 63), touch(from, 1, 63)}})
	has(t, "behind Copy to the left", r, int(from), append(bytes.Clone(long[1:]), 64))
}

// TestOrder: 12.2, of Copy and Same the first array's status ahead of the second
// one's, whichever they are; both show.
func TestOrder(t *testing.T) {
	ends := []struct {
		ref, at int32
		status  int
	}{{3, 0, api.Fine}, {3, 4, api.Bounds}, {3, -1, api.Bounds}, {0, 0, api.Null}, {0, 99, api.Null}, {5, 0, api.Wall}, {5, 99, api.Wall}, {1, 5, api.Bounds}}
	r := full(t)
	for _, op := range []int{code.Copy, code.Same} {
		for _, one := range ends {
			for _, other := range ends {
				want := one.status
				if want == api.Fine {
					want = other.status
				}
				if want != api.Fine {
					refuses(t, r, ask{0, op, 0, 0, []int32{one.ref, one.at, other.ref, other.at, 2}}, want, touch(one.ref, one.at, 2), touch(other.ref, other.at, 2))
				}
			}
		}
	}
}

// TestSame: 12.2, 1 where the bytes are alike, 0 elsewhere, wherever they part;
// nothing is turned by it.
func TestSame(t *testing.T) {
	r := made(t, 400)
	one := int32(alloc(t, r, 0, api.SecArr, false, []byte("abcabcab")))
	other := int32(alloc(t, r, 1, api.PubArr, true, []byte("cabcabx")))
	rows := []struct {
		a, at, b, k, n, want int32
	}{
		{one, 0, one, 0, 8, 1}, {one, 0, one, 3, 5, 1}, {one, 0, one, 1, 5, 0}, {one, 2, other, 0, 6, 1}, {other, 0, one, 2, 6, 1},
		{one, 1, other, 0, 7, 0}, {one, 0, other, 1, 6, 0}, {one, 0, other, 1, 5, 1}, {one, 7, other, 2, 1, 1}, {one, 7, other, 6, 1, 0},
		{one, 8, other, 7, 0, 1}, {one, 0, other, 0, 0, 1}, {1, 0, 2, 0, 0, 1}, {one, 3, one, 3, 1, 1},
	}
	for _, c := range rows {
		was := look(r)
		serves(t, r, ask{0, code.Same, 0, 0, []int32{c.a, c.at, c.b, c.k, c.n}}, told{c.want, api.Fine, []api.Event{touch(c.a, c.at, c.n), touch(c.b, c.k, c.n)}})
		if look(r) != was {
			t.Errorf("12.2: Same turns %s to %s", was, look(r))
		}
	}
}

// TestSameParts: 12.2, bytes that part in one place, in one bit, are not alike.
func TestSameParts(t *testing.T) {
	r := made(t, 400)
	one := alloc(t, r, 0, api.SecArr, false, counted(api.MaxArray))
	other := alloc(t, r, 0, api.SecArr, false, counted(api.MaxArray))
	args := []int32{int32(one), 0, int32(other), 0, api.MaxArray}
	for at, b := range counted(api.MaxArray) {
		for bit := range 8 {
			r.Heap().Put(other, at, b^1<<bit)
			if n, status := r.Serve(nil, 0, code.Same, 0, 0, args); n != 0 || status != api.Fine {
				t.Errorf("12.2: Same with bit %d of byte %d turned: %d, %x", bit, at, n, status)
			}
		}
		r.Heap().Put(other, at, b)
	}
	if n, status := r.Serve(nil, 0, code.Same, 0, 0, args); n != 1 || status != api.Fine {
		t.Errorf("12.2: Same of all: %d, %x", n, status)
	}
}

// TestSameBounds: 12.2, Bounds where either one leads beyond an end.
func TestSameBounds(t *testing.T) {
	r := pair(t, 4)
	for _, at := range edges(4) {
		for _, k := range []int32{-1, 0, 3, 4, 5} {
			for _, n := range edges(4) {
				if !within(at, n, 4) || !within(k, n, 4) {
					refuses(t, r, ask{0, code.Same, 0, 0, []int32{3, at, 4, k, n}}, api.Bounds, touch(3, at, n), touch(4, k, n))
				}
			}
		}
	}
}

// TestSend: 12.2, bytes are told behind the others, public ones where a is 1, and
// secret ones else, whatever the array's label.
func TestSend(t *testing.T) {
	r := pair(t, 5)
	public, secret := []byte(nil), []byte(nil)
	for _, a := range []int{1, 2, 1, 0, 3, 1, -1, 1 << 32, 1<<32 + 1, 1} {
		for ref := 1; ref <= 4; ref++ {
			at, n := int32(ref-1), int32(2)
			serves(t, r, ask{0, code.Send, a, 9, []int32{int32(ref), at, n}}, told{0, api.Fine, []api.Event{touch(int32(ref), at, n)}})
			data, _ := r.Heap().Array(ref)
			if a == 1 {
				public = append(public, data.Data[at:at+n]...)
			} else {
				secret = append(secret, data.Data[at:at+n]...)
			}
			tells(t, "behind Send", r, public, secret)
		}
	}
}

// TestSendBounds: 12.2, Bounds where it leads beyond an end; none at the very end
// are told as none.
func TestSendBounds(t *testing.T) {
	r := pair(t, 4)
	for _, a := range []int{1, 2} {
		for ref := int32(1); ref <= 4; ref++ {
			for _, at := range edges(4) {
				for _, n := range edges(4) {
					if !within(at, n, 4) {
						refuses(t, r, ask{0, code.Send, a, 0, []int32{ref, at, n}}, api.Bounds, touch(ref, at, n))
					}
				}
			}
			serves(t, r, ask{0, code.Send, a, 0, []int32{ref, 4, 0}}, told{0, api.Fine, []api.Event{touch(ref, 4, 0)}})
		}
	}
	tells(t, "none at the end", r, nil, nil)
}

// TestSendSize: 12.2, MaxResponse bytes of each may be told and no more, behind
// Bounds; the one's being full is not the other's.
func TestSendSize(t *testing.T) {
	for _, a := range []int{1, 2} {
		r := made(t, 200)
		begin(t, r, counted(64), counted(64))
		want := bytes.Repeat(counted(64), 2)
		sends(t, r, a, 64, api.Fine)
		sends(t, r, a, 63, api.Fine)
		sends(t, r, a, 2, api.Size)
		sends(t, r, a, 64, api.Size)
		sends(t, r, a, 65, api.Bounds)
		tellsOf(t, r, a, want[:127], nil)
		sends(t, r, a, 1, api.Fine)
		want[127] = 1
		sends(t, r, a, 1, api.Size)
		sends(t, r, a, 0, api.Fine)
		sends(t, r, a, math.MaxInt32, api.Bounds)
		sends(t, r, a, -1, api.Bounds)
		tellsOf(t, r, a, want, nil)
		sends(t, r, 3-a, 64, api.Fine)
		sends(t, r, 3-a, 64, api.Fine)
		sends(t, r, 3-a, 1, api.Size)
		sends(t, r, a, 1, api.Size)
		tellsOf(t, r, a, want, bytes.Repeat(counted(64), 2))
		begin(t, r, counted(64), nil)
		sends(t, r, a, 64, api.Fine)
		tellsOf(t, r, a, counted(64), nil)
	}
}

// sends holds the status of sending the first n bytes of the public buffer.
func sends(t *testing.T, r *room.Room, a int, n int32, status int) {
	t.Helper()
	c := ask{0, code.Send, a, 0, []int32{heap.PublicBuffer, 0, n}}
	if status != api.Fine {
		refuses(t, r, c, status, touch(heap.PublicBuffer, 0, n))
		return
	}
	serves(t, r, c, told{0, api.Fine, []api.Event{touch(heap.PublicBuffer, 0, n)}})
}

// tellsOf holds Told: what was sent to a, and what was sent to the other one.
func tellsOf(t *testing.T, r *room.Room, a int, want, other []byte) {
	t.Helper()
	if a == 1 {
		tells(t, "behind Send", r, want, other)
	} else {
		tells(t, "behind Send", r, other, want)
	}
}
