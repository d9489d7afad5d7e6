package room_test

import (
	"bytes"
	"fmt"
	"math"
	"slices"
	"testing"

	"taciturn/api"
	"taciturn/code"
	"taciturn/heap"
	"taciturn/leak"
	"taciturn/room"
	"taciturn/sample"
)

// served answers of each instruction that Serve does how many args it takes.
func served() map[int]int {
	return map[int]int{code.Div: 2, code.Rem: 2, code.New: 1, code.Len: 1, code.Get: 2, code.Put: 3, code.Copy: 5, code.Same: 5, code.Send: 3}
}

// ask is a call of Serve.
type ask struct {
	applet, op, a, b int
	args             []int32
}

// told is what a call of Serve answers, and what shows of it.
type told struct {
	n      int32
	status int
	events []api.Event
}

// touch is the event of an applet's reaching for n bytes of an array.
func touch(ref, at, n int32) api.Event {
	return api.Event{What: leak.Touch, A: int(ref), B: int(at), C: int(n)}
}

// serves holds what a call answers and what shows of it: with a trace that has
// something already, behind that.
func serves(t *testing.T, r *room.Room, c ask, want told) {
	t.Helper()
	first := api.Event{What: leak.Step, A: 1, B: 2, C: 3}
	trace := leak.New()
	trace.Add(first.What, first.A, first.B, first.C)
	n, status := r.Serve(trace, c.applet, c.op, c.a, c.b, c.args)
	if n != want.n || status != want.status {
		t.Errorf("12.2: %s of %+v: %d, %x, not %d, %x", code.Name(c.op), c, n, status, want.n, want.status)
	}
	if all := trace.All(); !slices.Equal(all, append([]api.Event{first}, want.events...)) {
		t.Errorf("12.2: %s of %+v shows %v, not %v", code.Name(c.op), c, all, want.events)
	}
}

// refuses holds that a call ends with a status, and turns nothing.
func refuses(t *testing.T, r *room.Room, c ask, status int, events ...api.Event) {
	t.Helper()
	was := look(r)
	serves(t, r, c, told{0, status, events})
	if look(r) != was {
		t.Errorf("12.2: %s of %+v, which ends with %x: %s, not %s", code.Name(c.op), c, status, look(r), was)
	}
}

// edges are numbers of 32 bits around the ends of an array, and far from them.
func edges(length int) []int32 {
	n := int32(length)
	return []int32{math.MinInt32, math.MinInt32 + n, -1 << 16, -n - 1, -2, -1, 0, 1, 2, n - 1, n, n + 1, 2 * n, 64, 65,
		1 << 8, 1 << 16, 1<<30 - 1, math.MaxInt32 - n, math.MaxInt32 - 1, math.MaxInt32}
}

// TestExample: the chapter's row.
func TestExample(t *testing.T) {
	if n, status := made(t, 64).Serve(leak.New(), 0, code.Div, 0, 0, []int32{7, 0}); n != 0 || status != api.Divide {
		t.Errorf("12.2: Div of 7, 0: %d, %x", n, status)
	}
}

// TestServes: 12.2, how many args each takes; -1 of others.
func TestServes(t *testing.T) {
	for _, op := range append(far(), others()...) {
		if n := room.Serves(op); n != -1 {
			t.Errorf("12.2: Serves(%d): %d", op, n)
		}
	}
	for op, want := range served() {
		if n := room.Serves(op); n != want {
			t.Errorf("12.2: Serves of %s: %d, not %d", code.Name(op), n, want)
		}
	}
}

// others are numbers around the instructions' that Serve does not do.
func others() []int {
	all := []int(nil)
	for op := range code.Ret + 10 {
		if _, ok := served()[op]; !ok {
			all = append(all, op)
		}
	}
	return all
}

// TestNotNow: 12.2, another op, or other than Serves args: 0 and NotNow, whatever
// else would be wrong; nothing shows, nothing is done.
func TestNotNow(t *testing.T) {
	r := full(t)
	args := []int32{3, 0, 1, 0, 1, 1, 1}
	for _, op := range append(far(), others()...) {
		for n := range len(args) + 1 {
			refuses(t, r, ask{0, op, 1, 0, args[:n]}, api.NotNow)
		}
	}
	for op, want := range served() {
		for n := range len(args) + 1 {
			if n == want {
				continue
			}
			refuses(t, r, ask{0, op, api.PubArr, 0, args[:n]}, api.NotNow)
			refuses(t, r, ask{0, op, 1, 0, make([]int32, n)}, api.NotNow)
		}
		refuses(t, r, ask{0, op, 1, 0, nil}, api.NotNow)
		refuses(t, r, ask{0, op, 1, 0, make([]int32, 300)}, api.NotNow)
	}
}

// TestDivide: 12.2, what word says; nothing shows, for any applet, whatever A and B.
func TestDivide(t *testing.T) {
	r := made(t, 64)
	rows := []struct{ a, b, div, rem int32 }{
		{7, 2, 3, 1}, {7, -2, -3, 1}, {-7, 2, -3, -1}, {-7, -2, 3, -1}, {0, 5, 0, 0}, {5, 7, 0, 5},
		{math.MinInt32, -1, math.MinInt32, 0}, {math.MinInt32, 1, math.MinInt32, 0}, {math.MaxInt32, -1, -math.MaxInt32, 0},
		{math.MinInt32, math.MaxInt32, -1, -1}, {math.MaxInt32, math.MinInt32, 0, math.MaxInt32},
	}
	for _, c := range rows {
		for _, k := range []int{-1, 0, 1, 99} {
			serves(t, r, ask{k, code.Div, k, k, []int32{c.a, c.b}}, told{c.div, api.Fine, nil})
			serves(t, r, ask{k, code.Rem, k, k, []int32{c.a, c.b}}, told{c.rem, api.Fine, nil})
		}
	}
	for _, n := range edges(4) {
		refuses(t, r, ask{0, code.Div, 0, 0, []int32{n, 0}}, api.Divide)
		refuses(t, r, ask{0, code.Rem, 0, 0, []int32{n, 0}}, api.Divide)
	}
}

// maker is the event of an array's making.
func maker(a, b int, n int32) api.Event {
	return api.Event{What: leak.Make, A: a, B: b, C: int(n)}
}

// TestNew: 12.2, arrays of each label, life and length, shared and not, of each
// applet: the next ref, and bytes 0.
func TestNew(t *testing.T) {
	for applet := range api.MaxApplets {
		r := made(t, api.MaxHeap)
		ref := int32(3)
		for _, a := range []int{api.PubArr, api.SecArr} {
			for _, b := range []int{0, 1, 2, 4, 5, 6} {
				for _, n := range []int32{0, 1, 13, api.MaxArray} {
					serves(t, r, ask{applet, code.New, a, b, []int32{n}}, told{ref, api.Fine, []api.Event{maker(a, b, n)}})
					made, _ := r.Heap().Array(int(ref))
					if made.Owner != applet || made.Label != a || made.Life != b%4 || made.Share != (b > 2) || !bytes.Equal(made.Data, make([]byte, n)) {
						t.Errorf("12.2: new %d %d of %d by %d: %+v", a, b, n, applet, made)
					}
					ref++
				}
			}
		}
	}
}

// TestNewSize: 12.2, Size of a length that may not be, ahead of all that heap would
// refuse; the edges are no such lengths.
func TestNewSize(t *testing.T) {
	r := full(t)
	for r.Heap().Used() < 300 {
		alloc(t, r, 0, api.PubArr, false, make([]byte, min(64, 300-r.Heap().Used()-8)))
	}
	for _, n := range append(edges(64), 63) {
		for _, a := range []int{api.PubArr, api.SecArr, 0, 9, -1} {
			for _, b := range []int{0, 2, 3, 6, 7, -1} {
				want := api.HeapFull
				if n < 0 || n > api.MaxArray {
					want = api.Size
				}
				refuses(t, r, ask{0, code.New, a, b, []int32{n}}, want, maker(a, b, n))
			}
		}
	}
}

// TestNewFull: 12.2, HeapFull, if heap refuses: no room, no such label, no such life.
func TestNewFull(t *testing.T) {
	r := made(t, 64)
	refuses(t, r, ask{0, code.New, api.PubArr, 0, []int32{57}}, api.HeapFull, maker(api.PubArr, 0, 57))
	refuses(t, r, ask{0, code.New, api.SecArr, 6, []int32{64}}, api.HeapFull, maker(api.SecArr, 6, 64))
	for _, a := range append(far(), 0, api.PubInt, api.SecInt, 5) {
		refuses(t, r, ask{0, code.New, a, 0, []int32{1}}, api.HeapFull, maker(a, 0, 1))
	}
	for _, b := range []int{3, 7, 11, -1, 1<<32 + 3, math.MaxInt} {
		refuses(t, r, ask{0, code.New, api.PubArr, b, []int32{1}}, api.HeapFull, maker(api.PubArr, b, 1))
	}
	serves(t, r, ask{0, code.New, api.PubArr, 0, []int32{40}}, told{3, api.Fine, []api.Event{maker(api.PubArr, 0, 40)}})
	refuses(t, r, ask{0, code.New, api.PubArr, 0, []int32{9}}, api.HeapFull, maker(api.PubArr, 0, 9))
	serves(t, r, ask{1, code.New, api.SecArr, 0, []int32{8}}, told{4, api.Fine, []api.Event{maker(api.SecArr, 0, 8)}})
	refuses(t, r, ask{0, code.New, api.PubArr, 0, []int32{0}}, api.HeapFull, maker(api.PubArr, 0, 0))
}

// TestNewModulo: 12.2, the life is b modulo 4, and 4 or more is shared, whatever b is.
func TestNewModulo(t *testing.T) {
	for b, want := range map[int]struct {
		life  int
		share bool
	}{8: {0, true}, 9: {1, true}, 14: {2, true}, 1<<32 + 2: {2, true}, -4: {0, false}, -3: {1, false}, -2: {2, false}} {
		r := made(t, 64)
		serves(t, r, ask{0, code.New, api.PubArr, b, []int32{2}}, told{3, api.Fine, []api.Event{maker(api.PubArr, b, 2)}})
		if a, _ := r.Heap().Array(3); a.Life != want.life || a.Share != want.share {
			t.Errorf("12.2: new of life %d: %+v", b, a)
		}
	}
}

// TestLen: 12.2, how long an array is, of every length, of buffers too.
func TestLen(t *testing.T) {
	r := made(t, api.MaxHeap)
	for n := range api.MaxArray + 1 {
		begin(t, r, make([]byte, n), make([]byte, api.MaxArray-n))
		refs := map[int]int{heap.PublicBuffer: n, heap.SecretBuffer: api.MaxArray - n}
		if n%4 == 0 {
			refs[alloc(t, r, 2, api.PubArr, false, make([]byte, n))] = n
		}
		for ref, want := range refs {
			serves(t, r, ask{2, code.Len, 0, 0, []int32{int32(ref)}}, told{int32(want), api.Fine, []api.Event{touch(int32(ref), 0, 0)}})
		}
	}
}

// TestCheck: 12.2, of every one that reaches for an array: wall's status, ahead of
// all else; it shows nevertheless.
func TestCheck(t *testing.T) {
	r := full(t)
	closed := map[int32]int{math.MinInt32: api.Null, -1: api.Null, 0: api.Null, 6: api.Null, 99: api.Null, math.MaxInt32: api.Null,
		1<<8 + 1: api.Null, 5: api.Wall}
	for ref, status := range closed {
		refuses(t, r, ask{0, code.Len, 0, 0, []int32{ref}}, status, touch(ref, 0, 0))
		for _, at := range edges(3) {
			refuses(t, r, ask{0, code.Get, 0, 0, []int32{ref, at}}, status, touch(ref, at, 1))
			refuses(t, r, ask{0, code.Put, 0, 0, []int32{ref, at, 9}}, status, touch(ref, at, 1))
			for _, n := range edges(3) {
				refuses(t, r, ask{0, code.Send, 1, 0, []int32{ref, at, n}}, status, touch(ref, at, n))
				refuses(t, r, ask{0, code.Send, 2, 0, []int32{ref, at, n}}, status, touch(ref, at, n))
				for _, op := range []int{code.Copy, code.Same} {
					refuses(t, r, ask{0, op, 0, 0, []int32{ref, at, 3, 9, n}}, status, touch(ref, at, n), touch(3, 9, n))
				}
			}
		}
	}
}

// TestOpen: 12.2, what one may touch: one's own, the card's, and what is shared, by
// any number of an applet, whether the room has one of it or not.
func TestOpen(t *testing.T) {
	r := full(t)
	rows := []struct {
		applet int
		ref    int32
		n      int32
	}{{0, 3, 5}, {0, 4, 9}, {1, 4, 9}, {1, 5, 3}, {2, 4, 9}, {-1, 4, 9}, {7, 1, 6}, {math.MinInt, 2, 6}, {math.MaxInt, 4, 9}}
	for _, c := range rows {
		serves(t, r, ask{c.applet, code.Len, 0, 0, []int32{c.ref}}, told{c.n, api.Fine, []api.Event{touch(c.ref, 0, 0)}})
	}
	for _, applet := range []int{1, 2, -1, 7, 1 << 32} {
		refuses(t, r, ask{applet, code.Len, 0, 0, []int32{3}}, api.Wall, touch(3, 0, 0))
	}
}

// TestGet: 12.2, each byte, 0 to 255, and Bounds elsewhere.
func TestGet(t *testing.T) {
	r := made(t, 400)
	data := []byte{0, 1, 127, 128, 200, 255}
	begin(t, r, data, data)
	for _, ref := range []int{heap.PublicBuffer, heap.SecretBuffer, alloc(t, r, 0, api.SecArr, false, data), alloc(t, r, 1, api.PubArr, true, data)} {
		for _, at := range append(edges(len(data)), 3, 4) {
			c := ask{0, code.Get, 0, 0, []int32{int32(ref), at}}
			if at >= 0 && at < int32(len(data)) {
				serves(t, r, c, told{int32(data[at]), api.Fine, []api.Event{touch(int32(ref), at, 1)}})
			} else {
				refuses(t, r, c, api.Bounds, touch(int32(ref), at, 1))
			}
		}
	}
	none := alloc(t, r, 0, api.PubArr, false, nil)
	refuses(t, r, ask{0, code.Get, 0, 0, []int32{int32(none), 0}}, api.Bounds, touch(int32(none), 0, 1))
}

// TestPut: 12.2, the byte is v modulo 256, and no other byte is turned; Bounds
// elsewhere.
func TestPut(t *testing.T) {
	r := made(t, 400)
	data := counted(6)
	begin(t, r, data, data)
	for _, ref := range []int{heap.PublicBuffer, heap.SecretBuffer, alloc(t, r, 0, api.SecArr, false, data), alloc(t, r, 1, api.PubArr, true, data)} {
		want := counted(6)
		for _, at := range append(edges(len(data)), 3, 4) {
			for v, b := range map[int32]byte{0: 0, 1: 1, 255: 255, 256: 0, 511: 255, -1: 255, -256: 0, -255: 1, math.MaxInt32: 255, math.MinInt32: 0, 1<<16 + 7: 7} {
				c := ask{0, code.Put, 0, 0, []int32{int32(ref), at, v}}
				if at < 0 || at >= int32(len(data)) {
					refuses(t, r, c, api.Bounds, touch(int32(ref), at, 1))
					continue
				}
				serves(t, r, c, told{0, api.Fine, []api.Event{touch(int32(ref), at, 1)}})
				want[at] = b
				has(t, "behind Put", r, ref, want)
			}
		}
	}
}

// TestNoTrace: 12.2, a nil trace: nothing shows, and all else is the same.
func TestNoTrace(t *testing.T) {
	one, other := full(t), full(t)
	for _, c := range some() {
		n, status := one.Serve(nil, c.applet, c.op, c.a, c.b, c.args)
		m, want := other.Serve(leak.New(), c.applet, c.op, c.a, c.b, c.args)
		if n != m || status != want || look(one) != look(other) {
			t.Errorf("12.2: %+v without a trace: %d, %x, not %d, %x", c, n, status, m, want)
		}
	}
}

// TestFullTrace: 10.1, a trace that has no room keeps nothing; what is asked for is
// done nevertheless.
func TestFullTrace(t *testing.T) {
	trace := leak.New()
	for trace.Add(leak.Step, 1, 2, 3) {
	}
	one, other := full(t), full(t)
	for _, c := range some() {
		n, status := one.Serve(trace, c.applet, c.op, c.a, c.b, c.args)
		m, want := other.Serve(leak.New(), c.applet, c.op, c.a, c.b, c.args)
		if n != m || status != want || look(one) != look(other) {
			t.Errorf("12.2: %+v with a full trace: %d, %x, not %d, %x", c, n, status, m, want)
		}
	}
	if last, _ := trace.At(api.MaxTrace - 1); trace.Len() != api.MaxTrace || last.What != leak.Step {
		t.Errorf("10.1: %d events, the last one %+v", trace.Len(), last)
	}
}

// some are calls of each service, ones that end well and ones that do not.
func some() []ask {
	return []ask{
		{0, code.Div, 0, 0, []int32{7, 2}}, {0, code.Rem, 0, 0, []int32{7, 0}},
		{0, code.New, api.PubArr, 5, []int32{4}}, {0, code.New, api.PubArr, 5, []int32{65}},
		{0, code.Len, 0, 0, []int32{3}}, {0, code.Len, 0, 0, []int32{5}},
		{0, code.Get, 0, 0, []int32{3, 1}}, {0, code.Get, 0, 0, []int32{3, 9}},
		{0, code.Put, 0, 0, []int32{3, 1, 99}}, {0, code.Put, 0, 0, []int32{0, 1, 99}},
		{0, code.Copy, 0, 0, []int32{3, 1, 4, 0, 4}}, {0, code.Copy, 0, 0, []int32{3, 1, 4, 0, 5}},
		{0, code.Same, 0, 0, []int32{3, 1, 4, 0, 4}}, {0, code.Same, 0, 0, []int32{5, 1, 4, 0, 4}},
		{0, code.Send, 1, 0, []int32{3, 0, 5}}, {0, code.Send, 2, 0, []int32{4, 0, 10}},
		{0, code.Add, 0, 0, []int32{1, 2}},
	}
}

// TestArgs: R2, args are not changed, their spare room included, and not kept.
func TestArgs(t *testing.T) {
	r := full(t)
	for _, c := range some() {
		args := append(slices.Clone(c.args), spare, spare)
		r.Serve(leak.New(), c.applet, c.op, c.a, c.b, args[:len(c.args)])
		if !slices.Equal(args, append(slices.Clone(c.args), spare, spare)) {
			t.Errorf("R2: args of %+v: %v", c, args)
		}
		was := look(r)
		for k := range args {
			args[k] = spare
		}
		if look(r) != was {
			t.Errorf("R2: args of %+v are kept", c)
		}
	}
}

// TestFieldsApart: 12.2, no service turns an applet or a field.
func TestFieldsApart(t *testing.T) {
	r := full(t)
	was, _ := r.Image(0)
	for _, c := range some() {
		r.Serve(nil, c.applet, c.op, c.a, c.b, c.args)
	}
	is, ok := r.Image(0)
	n, _ := r.Field(0, 1)
	if !ok || fmt.Sprint(is) != fmt.Sprint(was) || fmt.Sprint(is) != fmt.Sprint(sample.Some()) || n != -7 || r.Count() != 2 {
		t.Errorf("12.2: %+v, field %d", is, n)
	}
}
