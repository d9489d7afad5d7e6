package room_test

import (
	"bytes"
	"fmt"
	"math"
	"testing"

	"taciturn/api"
	"taciturn/code"
	"taciturn/heap"
	"taciturn/image"
	"taciturn/room"
	"taciturn/sample"
)

// spare is what is laid into a list to see who else has its memory.
const spare = 77

// far are places and numbers that no list has, though some have the lowest bits of
// one that a list has.
func far() []int {
	return []int{math.MinInt, math.MinInt + 1, -1 << 32, -1<<32 + 1, -2, -1, 1 << 8, 1<<8 + 1, 1<<32 - 1, 1 << 32, 1<<32 + 1, math.MaxInt}
}

// made answers a new room of a size that may be.
func made(t *testing.T, size int) *room.Room {
	t.Helper()
	r, e := room.New(size)
	if e != api.OK || r == nil {
		t.Fatalf("12.1: New(%d): %v, %d", size, r, e)
	}
	return r
}

// add holds that an applet is taken, as that number.
func add(t *testing.T, r *room.Room, i api.Image, want int) {
	t.Helper()
	if n, ok := r.Add(i); n != want || !ok || r.Count() != want+1 {
		t.Fatalf("12.1: Add: %d, %t, Count %d; not %d", n, ok, r.Count(), want)
	}
}

// begin holds that such buffers are taken.
func begin(t *testing.T, r *room.Room, public, secret []byte) {
	t.Helper()
	if !r.Begin(public, secret) {
		t.Fatalf("12.1: Begin of %d and %d bytes: false", len(public), len(secret))
	}
}

// alloc answers the ref of a new array that has those bytes.
func alloc(t *testing.T, r *room.Room, owner, label int, share bool, b []byte) int {
	t.Helper()
	ref, ok := r.Heap().Alloc(owner, label, 0, share, len(b))
	if !ok {
		t.Fatalf("8.1: Alloc of %d bytes: false", len(b))
	}
	for at, n := range b {
		r.Heap().Put(ref, at, n)
	}
	return ref
}

// has holds the bytes of an array.
func has(t *testing.T, when string, r *room.Room, ref int, want []byte) {
	t.Helper()
	if a, ok := r.Heap().Array(ref); !ok || !bytes.Equal(a.Data, want) {
		t.Errorf("12: %s: array %d: %v, %t, not %v", when, ref, a.Data, ok, want)
	}
}

// tells holds what Told answers.
func tells(t *testing.T, when string, r *room.Room, public, secret []byte) {
	t.Helper()
	if p, s := r.Told(); !bytes.Equal(p, public) || !bytes.Equal(s, secret) {
		t.Errorf("12: %s: Told: %v and %v, not %v and %v", when, p, s, public, secret)
	}
}

// counted answers n bytes that are not 0, different from their neighbours.
func counted(n int) []byte {
	b := make([]byte, n)
	for i := range b {
		b[i] = byte(i + 1)
	}
	return b
}

// look answers all that a room tells: rooms are alike where their texts are.
func look(r *room.Room) string {
	s := fmt.Sprintf("%d applets, heap %d", r.Count(), r.Heap().Used())
	for k := range r.Count() {
		i, ok := r.Image(k)
		s += fmt.Sprintf("\n%d %t %v", k, ok, i)
		for f := range i.Fields {
			n, there := r.Field(k, f)
			s += fmt.Sprintf(" %d %t", n, there)
		}
	}
	for ref := range r.Heap().Count() + 1 {
		a, ok := r.Heap().Array(ref)
		s += fmt.Sprintf("\n%d %t %v", ref, ok, a)
	}
	p, q := r.Told()
	return s + fmt.Sprintf("\n%v %v", p, q)
}

// full answers a room with some of all, and something told.
func full(t *testing.T) *room.Room {
	t.Helper()
	r := made(t, 300)
	add(t, r, sample.Some(), 0)
	add(t, r, sample.Least(), 1)
	r.SetField(0, 1, -7)
	begin(t, r, []byte("public"), []byte("secret"))
	alloc(t, r, 0, api.PubArr, false, counted(5))
	alloc(t, r, 1, api.SecArr, true, counted(9))
	alloc(t, r, 1, api.SecArr, false, counted(3))
	r.Serve(nil, 0, code.Send, 1, 0, []int32{1, 0, 3})
	r.Serve(nil, 0, code.Send, 2, 0, []int32{2, 1, 4})
	tells(t, "behind Send", r, []byte("pub"), []byte("ecre"))
	return r
}

// TestNewSizes: 12.1, heap.New's error, and none beside it.
func TestNewSizes(t *testing.T) {
	sizes := append(far(), 0, 1, 5, api.MinHeap-1, api.MinHeap, api.MinHeap+1, 1000, api.MaxHeap-1, api.MaxHeap, api.MaxHeap+1)
	for _, size := range sizes {
		_, want := heap.New(size)
		if r, e := room.New(size); e != want || (r == nil) != (want != api.OK) {
			t.Errorf("12.1: New(%d): %v, %d, not %d", size, r, e, want)
		}
	}
}

// TestNewRoom: 12.1, a new room has no applets, a heap of that size with empty
// buffers, and nothing told.
func TestNewRoom(t *testing.T) {
	for _, size := range []int{api.MinHeap, 65, 100, api.MaxHeap} {
		r := made(t, size)
		if r.Count() != 0 || r.Heap() == nil || r.Heap().Count() != 2 || r.Heap().Used() != 0 {
			t.Errorf("12.1: New(%d): %s", size, look(r))
		}
		has(t, "at first", r, heap.PublicBuffer, nil)
		has(t, "at first", r, heap.SecretBuffer, nil)
		tells(t, "at first", r, nil, nil)
		for left := size; left > 0; {
			n := min(api.MaxArray, left-8)
			if _, ok := r.Heap().Alloc(0, api.PubArr, 0, false, n); ok != (n >= 0) {
				t.Fatalf("12.1: New(%d): Alloc of %d with %d left: %t", size, n, left, ok)
			}
			left -= 8 + api.MaxArray
		}
		if _, ok := r.Heap().Alloc(0, api.PubArr, 0, false, 0); ok {
			t.Errorf("12.1: New(%d): Alloc behind all of it", size)
		}
	}
}

// TestAdd: 12.1, numbers from 0 on, alike ones too, till there are MaxApplets; then
// 0, false, and nothing is turned.
func TestAdd(t *testing.T) {
	r := made(t, 100)
	all := []api.Image{sample.Some(), sample.Most(), sample.Some(), sample.Least()}
	for k, i := range all {
		add(t, r, i, k)
	}
	was := look(r)
	for _, i := range append(all, api.Image{}, sample.Empty()) {
		if n, ok := r.Add(i); n != 0 || ok {
			t.Errorf("12.1: Add behind MaxApplets: %d, %t", n, ok)
		}
	}
	if look(r) != was || r.Count() != api.MaxApplets {
		t.Errorf("R3: Add that is refused: %s, not %s", look(r), was)
	}
	for k, i := range all {
		if got, ok := r.Image(k); !ok || !image.Same(got, i) {
			t.Errorf("12.1: Image(%d): %+v, %t", k, got, ok)
		}
	}
}

// TestAddWhatever: 12.1 asks of no image that it is right: it is there as it is.
func TestAddWhatever(t *testing.T) {
	r := made(t, 100)
	wrong := []api.Image{
		{},
		{Name: "NO NAME", Fields: []int{9, -1, 0, 1, 1, 1, 1, 1, 1, 1, 1}, Exports: []int{99}},
		{Name: "a", Methods: []api.Method{{Code: []api.Instr{{Op: 99, A: 1, B: 2}}, Result: 7, Locals: []int{-1}}}},
		{Imports: []api.Import{{Export: -1, Params: []int{9, 9, 9, 9, 9}}}, Exports: make([]int, 300)},
	}
	for k, i := range wrong {
		add(t, r, i, k)
		if got, ok := r.Image(k); !ok || !image.Same(got, i) {
			t.Errorf("12.1: Image(%d): %+v, %t", k, got, ok)
		}
	}
	if !r.SetField(1, 10, 5) || r.SetField(1, 11, 5) || r.SetField(0, 0, 5) {
		t.Error("12.1: SetField of an image that is not right")
	}
}

// TestImageNone: 12.1 and R5, an applet that is none.
func TestImageNone(t *testing.T) {
	r := made(t, 100)
	for count := range api.MaxApplets + 1 {
		for _, k := range append(far(), count, count+1, api.MaxApplets) {
			if i, ok := r.Image(k); ok || !image.Same(i, api.Image{}) {
				t.Errorf("12.1: Image(%d) of %d: %+v, %t", k, count, i, ok)
			}
		}
		r.Add(sample.Some())
	}
}

// TestImageMemory: R2, what is handed in is not changed and not kept, and what is
// answered is new memory, of which no two lists share any.
func TestImageMemory(t *testing.T) {
	r := made(t, 100)
	one, isWhole := sample.Roomy()
	add(t, r, one, 0)
	if !isWhole() {
		t.Error("R2: Add turns an image")
	}
	spoil(one)
	for range 3 {
		got, ok := r.Image(0)
		if !ok || !image.Same(got, sample.Some()) || !sample.Apart(got) {
			t.Fatalf("R2: Image: %+v, %t", got, ok)
		}
		spoil(got)
	}
	if n, ok := r.Field(0, 0); n != 0 || !ok || r.SetField(0, 2, 1) {
		t.Errorf("12.1: Field: %d, %t", n, ok)
	}
}

// spoil fills all lists of i, those of imports and methods too, with what no list
// has.
func spoil(i api.Image) {
	sample.Spoil(i)
	for k := range i.Imports[:cap(i.Imports)] {
		i.Imports[:cap(i.Imports)][k] = api.Import{Name: "spoilt", Result: spare}
	}
	for k := range i.Methods[:cap(i.Methods)] {
		i.Methods[:cap(i.Methods)][k] = api.Method{Result: spare}
	}
}

// TestImageNil: R2, lists that are nil and empty ones are taken alike.
func TestImageNil(t *testing.T) {
	r := made(t, 100)
	add(t, r, sample.Least(), 0)
	add(t, r, sample.Empty(), 1)
	one, _ := r.Image(0)
	other, _ := r.Image(1)
	if !image.Same(one, other) || !image.Same(one, sample.Least()) {
		t.Errorf("R2: %+v and %+v", one, other)
	}
}

// TestFields: 12.1, fields are 0 at first, each is its own, of any number, and
// stays whatever else is done.
func TestFields(t *testing.T) {
	r := made(t, 100)
	want := [api.MaxApplets][api.MaxFields]int32{}
	for k := range api.MaxApplets {
		add(t, r, sample.Most(), k)
		holdsFields(t, "behind Add", r, want)
		for f := range api.MaxFields {
			for _, n := range []int32{1, -1, math.MaxInt32, math.MinInt32, int32(10*k + f)} {
				want[k][f] = n
				if !r.SetField(k, f, n) {
					t.Fatalf("12.1: SetField(%d, %d): false", k, f)
				}
				holdsFields(t, "behind SetField", r, want)
			}
		}
	}
	r.Begin([]byte("a"), nil)
	r.Add(sample.Most())
	r.Heap().Clear(1, 0)
	holdsFields(t, "later", r, want)
}

// holdsFields holds the fields of the applets that there are.
func holdsFields(t *testing.T, when string, r *room.Room, want [api.MaxApplets][api.MaxFields]int32) {
	t.Helper()
	for k := range r.Count() {
		for f := range api.MaxFields {
			if n, ok := r.Field(k, f); n != want[k][f] || !ok {
				t.Errorf("12.1: %s: Field(%d, %d): %d, %t, not %d", when, k, f, n, ok, want[k][f])
			}
		}
	}
}

// TestFieldNone: 12.1 and R5, an applet or a field that is none.
func TestFieldNone(t *testing.T) {
	r := made(t, 100)
	for count := range api.MaxApplets + 1 {
		was := look(r)
		for _, k := range append(far(), 2, 3, api.MaxFields) {
			noField(t, r, k, 0)
			noField(t, r, 0, k)
			noField(t, r, k, k)
			noField(t, r, count-1, k)
		}
		noField(t, r, count, 0)
		if look(r) != was {
			t.Errorf("R3: SetField that is refused: %s, not %s", look(r), was)
		}
		i := sample.Some()
		i.Fields = i.Fields[:2-count/2]
		r.Add(i)
	}
	noField(t, r, 3, 1)
}

// noField holds that a field is none, if neither the applet nor it is there.
func noField(t *testing.T, r *room.Room, applet, k int) {
	t.Helper()
	i, _ := r.Image(applet)
	if k >= 0 && k < len(i.Fields) {
		return
	}
	if n, ok := r.Field(applet, k); n != 0 || ok {
		t.Errorf("12.1: Field(%d, %d): %d, %t", applet, k, n, ok)
	}
	if r.SetField(applet, k, 5) {
		t.Errorf("12.1: SetField(%d, %d): true", applet, k)
	}
}

// TestHeap: 12.1, the heap is the room's own, one and the same each time.
func TestHeap(t *testing.T) {
	r := made(t, 100)
	h := r.Heap()
	ref, status := r.Serve(nil, 0, code.New, api.PubArr, 0, []int32{4})
	if status != api.Fine || h.Count() != 3 || h.Used() != 12 {
		t.Errorf("12.1: Heap behind New: %d, %x, Count %d", ref, status, h.Count())
	}
	h.Put(int(ref), 2, 9)
	if n, status := r.Serve(nil, 0, code.Get, 0, 0, []int32{ref, 2}); n != 9 || status != api.Fine {
		t.Errorf("12.1: Get behind Heap's Put: %d, %x", n, status)
	}
	if r.Heap() != h {
		t.Error("12.1: Heap answers another one")
	}
}

// TestBegin: 12.1, the buffers are those bytes, whatever they were, and just they.
func TestBegin(t *testing.T) {
	r := made(t, api.MinHeap)
	lengths := []int{3, api.MaxBuffer, 0, api.MaxBuffer - 1, 1, 0, 33}
	for _, public := range lengths {
		for _, secret := range lengths {
			begin(t, r, counted(public), bytes.Repeat([]byte{200}, secret))
			has(t, "behind Begin", r, heap.PublicBuffer, counted(public))
			has(t, "behind Begin", r, heap.SecretBuffer, bytes.Repeat([]byte{200}, secret))
		}
	}
	begin(t, r, nil, []byte{})
	has(t, "behind Begin of none", r, heap.PublicBuffer, nil)
	has(t, "behind Begin of none", r, heap.SecretBuffer, nil)
	if r.Heap().Count() != 2 || r.Heap().Used() != 0 {
		t.Errorf("12.1: Begin: %s", look(r))
	}
}

// TestBeginRefuses: 12.1, false, and nothing, if one is too long, whichever it is.
func TestBeginRefuses(t *testing.T) {
	r := full(t)
	was := look(r)
	long := []int{api.MaxBuffer + 1, 100, 1 << 8, 1<<16 + 1}
	for _, n := range long {
		for _, other := range append(long, 0, 1, api.MaxBuffer) {
			if r.Begin(make([]byte, n), make([]byte, other)) || r.Begin(make([]byte, other), make([]byte, n)) {
				t.Errorf("12.1: Begin of %d and %d bytes: true", n, other)
			}
			if look(r) != was {
				t.Fatalf("12.1: Begin that is refused: %s, not %s", look(r), was)
			}
		}
	}
}

// TestBeginMemory: R2, what is handed in is not changed, its spare room included,
// and not kept.
func TestBeginMemory(t *testing.T) {
	r := made(t, 100)
	public, secret := []byte{1, 2, spare}, []byte{3, 4, spare}
	begin(t, r, public[:2], secret[:2])
	r.Heap().Put(heap.PublicBuffer, 0, 9)
	r.Heap().Put(heap.SecretBuffer, 0, 9)
	if !bytes.Equal(public, []byte{1, 2, spare}) || !bytes.Equal(secret, []byte{3, 4, spare}) {
		t.Errorf("R2: %v and %v", public, secret)
	}
	public[1], secret[1] = spare, spare
	has(t, "kept apart", r, heap.PublicBuffer, []byte{9, 2})
	has(t, "kept apart", r, heap.SecretBuffer, []byte{9, 4})
	both := []byte{1, 2, 3}
	begin(t, r, both, both)
	r.Heap().Put(heap.PublicBuffer, 0, 9)
	has(t, "apart from the other", r, heap.SecretBuffer, []byte{1, 2, 3})
}

// TestTold: 12.1, what was sent since Begin, and nothing ahead of it; the buffers'
// turning later does not turn it.
func TestTold(t *testing.T) {
	r := full(t)
	r.Heap().SetBuffer(heap.PublicBuffer, []byte("turned"))
	r.Heap().SetBuffer(heap.SecretBuffer, nil)
	tells(t, "behind SetBuffer", r, []byte("pub"), []byte("ecre"))
	begin(t, r, []byte("other"), nil)
	tells(t, "behind Begin", r, nil, nil)
	r.Serve(nil, 0, code.Send, 1, 0, []int32{1, 4, 1})
	tells(t, "behind Send", r, []byte("r"), nil)
	begin(t, r, nil, []byte("more"))
	r.Serve(nil, 0, code.Send, 2, 0, []int32{2, 0, 4})
	tells(t, "behind Send", r, nil, []byte("more"))
	begin(t, r, nil, nil)
	tells(t, "behind Begin", r, nil, nil)
}

// TestToldEarly: 12.1, what is sent ahead of any Begin is told too.
func TestToldEarly(t *testing.T) {
	r := made(t, 100)
	ref := alloc(t, r, 0, api.PubArr, false, counted(4))
	r.Serve(nil, 0, code.Send, 1, 0, []int32{int32(ref), 1, 2})
	tells(t, "ahead of Begin", r, []byte{2, 3}, nil)
}

// TestToldMemory: R2, what is answered is new memory, its spare room too.
func TestToldMemory(t *testing.T) {
	r := full(t)
	p, s := r.Told()
	fill(p)
	if !bytes.Equal(s, []byte("ecre")) {
		t.Errorf("R2: Told's two lists share memory: %v", s)
	}
	fill(s)
	tells(t, "behind a spoilt answer", r, []byte("pub"), []byte("ecre"))
	r.Serve(nil, 0, code.Send, 1, 0, []int32{1, 0, 6})
	tells(t, "behind a spoilt answer", r, []byte("pubpublic"), []byte("ecre"))
}

// fill fills a list, and its spare room, with what no list has.
func fill(b []byte) {
	for k := range b[:cap(b)] {
		b[:cap(b)][k] = spare
	}
}

// TestResolve: 12.1, link's, of all images: those that came later too, the first of
// a name ahead of others.
func TestResolve(t *testing.T) {
	r := made(t, 100)
	callee := api.Image{Name: "b", Methods: []api.Method{{}, {}, {Params: []int{2}, Result: 3}}, Exports: []int{0, 2}}
	add(t, r, api.Image{Name: "a", Imports: []api.Import{{Name: "c"}, {Name: "b", Export: 1, Params: []int{2}, Result: 3}}}, 0)
	resolves(t, r, 0, 1, 0, 0, false)
	add(t, r, callee, 1)
	resolves(t, r, 0, 1, 1, 2, true)
	resolves(t, r, 0, 0, 0, 0, false)
	add(t, r, api.Image{Name: "c", Methods: []api.Method{{}, {}}, Exports: []int{1}, Imports: []api.Import{{Name: "b"}, {Name: "c"}}}, 2)
	callee.Exports[1] = 0
	callee.Methods[2].Params[0] = 1
	add(t, r, callee, 3)
	resolves(t, r, 0, 0, 2, 1, true)
	resolves(t, r, 0, 1, 1, 2, true)
	resolves(t, r, 2, 0, 1, 0, true)
	resolves(t, r, 2, 1, 2, 1, true)
	for _, none := range append(far(), 4, 5) {
		resolves(t, r, none, 0, 0, 0, false)
		resolves(t, r, 0, none, 0, 0, false)
		resolves(t, r, none, none, 0, 0, false)
	}
}

// resolves holds what Resolve answers.
func resolves(t *testing.T, r *room.Room, applet, k, to, method int, ok bool) {
	t.Helper()
	if gotTo, gotMethod, gotOk := r.Resolve(applet, k); gotTo != to || gotMethod != method || gotOk != ok {
		t.Errorf("12.1: Resolve(%d, %d): %d, %d, %t, not %d, %d, %t", applet, k, gotTo, gotMethod, gotOk, to, method, ok)
	}
}

// TestApart: R7, rooms know nothing of one another.
func TestApart(t *testing.T) {
	one, other := full(t), full(t)
	was := look(other)
	one.Add(sample.Most())
	one.SetField(0, 0, 4)
	one.Serve(nil, 0, code.Send, 1, 0, []int32{1, 0, 3})
	one.Serve(nil, 0, code.New, api.PubArr, 0, []int32{3})
	one.Serve(nil, 0, code.Put, 0, 0, []int32{3, 0, 99})
	begin(t, one, []byte("x"), []byte("y"))
	if look(other) != was {
		t.Errorf("R7: %s, not %s", look(other), was)
	}
	if look(full(t)) != was {
		t.Error("R4: a room that was told the same is another one")
	}
}
