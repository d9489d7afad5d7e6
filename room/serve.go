package room

import (
	"taciturn/api"
	"taciturn/code"
	"taciturn/leak"
	"taciturn/wall"
	"taciturn/word"
)

// unserved is what Serves answers of an instruction that is not done here.
const unserved = -1

// mostArgs is how many args an instruction that is done here takes at most.
const mostArgs = 5

// shared is what New's B has beside a life, where the array is to be shared.
const shared = 4

// toPublic is Send's A, where public bytes are told.
const toPublic = 1

// span is n bytes of an array, from a place on.
type span struct {
	ref, at, n int
}

// Serves answers how many args Serve takes for an instruction; -1 of what it does
// not do.
func Serves(op int) int {
	switch op {
	case code.New, code.Len:
		return 1
	case code.Div, code.Rem, code.Get:
		return 2
	case code.Put, code.Send:
		return 3
	case code.Copy, code.Same:
		return mostArgs
	}
	return unserved
}

// Serve does an instruction of an applet. What shows is told ahead of what is
// asked: a try that ends badly shows like one that ends well.
func (r *Room) Serve(t *leak.Trace, applet, op, a, b int, args []int32) (int32, int) {
	if len(args) != Serves(op) {
		return 0, api.NotNow
	}
	n := numbers(args)
	switch op {
	case code.Div:
		return divided(word.Div(args[0], args[1]))
	case code.Rem:
		return divided(word.Rem(args[0], args[1]))
	case code.New:
		show(t, leak.Make, a, b, n[0])
		return r.alloc(applet, a, b, n[0])
	case code.Len:
		touch(t, span{n[0], 0, 0})
		return r.length(applet, n[0])
	case code.Get:
		one := span{n[0], n[1], 1}
		touch(t, one)
		return r.get(applet, one)
	case code.Put:
		one := span{n[0], n[1], 1}
		touch(t, one)
		return 0, r.put(applet, one, byte(args[2]))
	case code.Copy:
		to, from := span{n[0], n[1], n[4]}, span{n[2], n[3], n[4]}
		touch(t, to, from)
		return 0, r.copy(applet, to, from)
	case code.Same:
		one, other := span{n[0], n[1], n[4]}, span{n[2], n[3], n[4]}
		touch(t, one, other)
		return r.same(applet, one, other)
	case code.Send:
		from := span{n[0], n[1], n[2]}
		touch(t, from)
		return 0, r.send(applet, a, from)
	}
	return 0, api.NotNow
}

// numbers answers args, at most mostArgs of them, as numbers; 0 behind them.
func numbers(args []int32) [mostArgs]int {
	all := [mostArgs]int{}
	for k, n := range args {
		all[k] = int(n)
	}
	return all
}

// show tells a trace of an event; nobody, if there is no trace.
func show(t *leak.Trace, what, a, b, c int) {
	if t != nil {
		t.Add(what, a, b, c)
	}
}

// touch tells a trace of the reaching for spans, one behind the other.
func touch(t *leak.Trace, spans ...span) {
	for _, s := range spans {
		show(t, leak.Touch, s.ref, s.at, s.n)
	}
}

// divided answers what word says of a division.
func divided(n int32, ok bool) (int32, int) {
	if !ok {
		return 0, api.Divide
	}
	return n, api.Fine
}

// alloc makes an array of n bytes. b has its life in the bits below shared.
func (r *Room) alloc(applet, a, b, n int) (int32, int) {
	if n < 0 || n > api.MaxArray {
		return 0, api.Size
	}
	ref, ok := r.heap.Alloc(applet, a, b&(shared-1), b >= shared, n)
	if !ok {
		return 0, api.HeapFull
	}
	return int32(ref), api.Fine
}

// length answers how long an array is.
func (r *Room) length(applet, ref int) (int32, int) {
	if status := wall.Check(r.heap, ref, applet); status != api.Fine {
		return 0, status
	}
	array, _ := r.heap.Array(ref)
	return int32(len(array.Data)), api.Fine
}

// get answers a byte.
func (r *Room) get(applet int, one span) (int32, int) {
	if status := r.reach(applet, one); status != api.Fine {
		return 0, status
	}
	n, _ := r.heap.Get(one.ref, one.at)
	return int32(n), api.Fine
}

// put lays a byte.
func (r *Room) put(applet int, one span, n byte) int {
	if status := r.reach(applet, one); status != api.Fine {
		return status
	}
	r.heap.Put(one.ref, one.at, n)
	return api.Fine
}

// copy lays from's bytes into to. They are all read ahead of the first one's being
// laid, since the two may be of one array.
func (r *Room) copy(applet int, to, from span) int {
	if status := r.reach(applet, to, from); status != api.Fine {
		return status
	}
	for k, n := range r.read(from) {
		r.heap.Put(to.ref, to.at+k, n)
	}
	return api.Fine
}

// same answers 1 where the bytes of both are alike, else 0.
func (r *Room) same(applet int, one, other span) (int32, int) {
	if status := r.reach(applet, one, other); status != api.Fine {
		return 0, status
	}
	return word.SameBytes(r.read(one), r.read(other)), api.Fine
}

// send tells bytes behind those that were told before.
func (r *Room) send(applet, a int, from span) int {
	told := &r.secret
	if a == toPublic {
		told = &r.public
	}
	status := r.reach(applet, from)
	switch {
	case status != api.Fine:
		return status
	case len(*told)+from.n > api.MaxResponse:
		return api.Size
	}
	*told = append(*told, r.read(from)...)
	return api.Fine
}

// reach answers the status of an applet's reaching for spans: the first that is
// not Fine.
func (r *Room) reach(applet int, spans ...span) int {
	for _, s := range spans {
		if status := wall.Range(r.heap, s.ref, s.at, s.n, applet); status != api.Fine {
			return status
		}
	}
	return api.Fine
}

// read answers the bytes of a span that is within its array, in new memory.
func (r *Room) read(s span) []byte {
	array, _ := r.heap.Array(s.ref)
	return array.Data[s.at : s.at+s.n]
}
