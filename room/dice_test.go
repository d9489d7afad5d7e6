package room_test

import (
	"bytes"
	"fmt"
	"slices"
	"strings"
	"testing"

	"taciturn/api"
	"taciturn/code"
	"taciturn/link"
	"taciturn/room"
	"taciturn/sample"
)

// diary is what a room is told, written down apart: lists, and nothing else.
type diary struct {
	size    int
	applets []api.Image
	fields  [][]int32
	arrays  []api.Array
	sent    [2][]byte
}

// newDiary answers that of a new room.
func newDiary(size int) *diary {
	return &diary{size: size, arrays: []api.Array{{Owner: -1, Label: api.PubArr}, {Owner: -1, Label: api.SecArr}}}
}

// left answers how much of the size no array takes.
func (d *diary) left() int {
	left := d.size
	for _, a := range d.arrays[2:] {
		left -= 8 + len(a.Data)
	}
	return left
}

// status answers that of an applet's reaching for n bytes.
func (d *diary) status(applet int, ref, at, n int32) int {
	if ref < 1 || int(ref) > len(d.arrays) {
		return api.Null
	}
	a := d.arrays[ref-1]
	if a.Owner != -1 && a.Owner != applet && !a.Share {
		return api.Wall
	}
	if !within(at, n, len(a.Data)) {
		return api.Bounds
	}
	return api.Fine
}

// cut answers n bytes of an array that has them.
func (d *diary) cut(ref, at, n int32) []byte {
	return d.arrays[ref-1].Data[at : at+n]
}

// serve answers what Serve is to answer, and what is to show, and writes down what
// it is to do.
func (d *diary) serve(c ask) told {
	args := c.args
	if want, ok := served()[c.op]; !ok || want != len(args) {
		return told{0, api.NotNow, nil}
	}
	switch c.op {
	case code.Div, code.Rem:
		return divides(c.op, int64(args[0]), int64(args[1]))
	case code.New:
		return d.new(c)
	case code.Copy, code.Same:
		return d.two(c)
	}
	return d.one(c)
}

// divides answers what a division is to answer.
func divides(op int, a, b int64) told {
	switch {
	case b == 0:
		return told{0, api.Divide, nil}
	case op == code.Div:
		return told{int32(a / b), api.Fine, nil}
	}
	return told{int32(a % b), api.Fine, nil}
}

// new writes down an array that is made.
func (d *diary) new(c ask) told {
	n := int(c.args[0])
	want := told{0, api.Fine, []api.Event{maker(c.a, c.b, c.args[0])}}
	switch {
	case n < 0 || n > 64:
		want.status = api.Size
	case n+8 > d.left() || c.a != api.PubArr && c.a != api.SecArr || c.b%4 == 3:
		want.status = api.HeapFull
	default:
		d.arrays = append(d.arrays, api.Array{Owner: c.applet, Label: c.a, Life: c.b % 4, Share: c.b/4 > 0, Data: make([]byte, n)})
		want.n = int32(len(d.arrays))
	}
	return want
}

// one writes down what is done with one array.
func (d *diary) one(c ask) told {
	ref, at, n := c.args[0], int32(0), int32(0)
	switch c.op {
	case code.Get, code.Put:
		at, n = c.args[1], 1
	case code.Send:
		at, n = c.args[1], c.args[2]
	}
	want := told{0, d.status(c.applet, ref, at, n), []api.Event{touch(ref, at, n)}}
	if want.status != api.Fine {
		return want
	}
	switch c.op {
	case code.Len:
		want.n = int32(len(d.arrays[ref-1].Data))
	case code.Get:
		want.n = int32(d.cut(ref, at, 1)[0])
	case code.Put:
		d.cut(ref, at, 1)[0] = byte(uint32(c.args[2]) % 256)
	case code.Send:
		want.status = d.send(c.a, d.cut(ref, at, n))
	}
	return want
}

// send writes down what is told, if it may be.
func (d *diary) send(a int, b []byte) int {
	list := &d.sent[1]
	if a == 1 {
		list = &d.sent[0]
	}
	if len(*list)+len(b) > 128 {
		return api.Size
	}
	*list = append(bytes.Clone(*list), b...)
	return api.Fine
}

// two writes down what is done with two arrays.
func (d *diary) two(c ask) told {
	a, at, b, k, n := c.args[0], c.args[1], c.args[2], c.args[3], c.args[4]
	want := told{0, d.status(c.applet, a, at, n), []api.Event{touch(a, at, n), touch(b, k, n)}}
	if want.status == api.Fine {
		want.status = d.status(c.applet, b, k, n)
	}
	switch {
	case want.status != api.Fine:
	case c.op == code.Copy:
		copy(d.cut(a, at, n), bytes.Clone(d.cut(b, k, n)))
	case bytes.Equal(d.cut(a, at, n), d.cut(b, k, n)):
		want.n = 1
	}
	return want
}

// look answers what look of a room with that diary is to answer.
func (d *diary) look() string {
	s := fmt.Sprintf("%d applets, heap %d", len(d.applets), d.size-d.left())
	for k, i := range d.applets {
		s += fmt.Sprintf("\n%d true %v", k, i)
		for _, n := range d.fields[k] {
			s += fmt.Sprintf(" %d true", n)
		}
	}
	s += fmt.Sprintf("\n0 false %v", api.Array{})
	for k, a := range d.arrays {
		s += fmt.Sprintf("\n%d true %v", k+1, a)
	}
	return s + fmt.Sprintf("\n%v %v", d.sent[0], d.sent[1])
}

// near answers a number that often is a place in a short array.
func near(dice *sample.Dice) int32 {
	switch dice.UpTo(20) {
	case 0:
		return edges(8)[dice.UpTo(len(edges(8))-1)]
	case 1, 2:
		return int32(dice.UpTo(70))
	}
	return int32(dice.UpTo(8))
}

// call answers a call of Serve by dice, mostly one that may be.
func call(dice *sample.Dice, d *diary) ask {
	ops := []int{code.Div, code.Rem, code.New, code.Len, code.Get, code.Put, code.Copy, code.Same, code.Send, code.Copy, code.Same, code.Send, code.Pick}
	c := ask{applet: dice.UpTo(5) - 1, op: ops[dice.UpTo(len(ops)-1)], a: dice.UpTo(3), b: dice.UpTo(8)}
	if c.op == code.New {
		c.a += 2
	}
	n := served()[c.op]
	if dice.UpTo(60) == 0 {
		n = dice.UpTo(6)
	}
	for k := range n {
		switch {
		case k == 0 && c.op != code.New, k == 2 && n == 5:
			c.args = append(c.args, int32(dice.UpTo(len(d.arrays)+1)))
		default:
			c.args = append(c.args, near(dice))
		}
	}
	if c.op == code.Send && n == 3 && dice.UpTo(1) == 0 {
		ref := 1 + dice.UpTo(len(d.arrays)-1)
		c.args = []int32{int32(ref), 0, int32(len(d.arrays[ref-1].Data))}
	}
	return c
}

// turn does something else than Serve to a room, and writes it down.
func turn(t *testing.T, dice *sample.Dice, r *room.Room, d *diary) {
	t.Helper()
	switch dice.UpTo(3) {
	case 0:
		i := dice.Image()
		i.Name, i.Methods = dice.OneOf("a", "b"), i.Methods[:1]
		if n, ok := r.Add(i); ok != (len(d.applets) < 4) || ok && n != len(d.applets) {
			t.Fatalf("12.1: Add: %d, %t", n, ok)
		}
		if len(d.applets) < 4 {
			d.applets, d.fields = append(d.applets, i), append(d.fields, make([]int32, len(i.Fields)))
		}
	case 1:
		public, secret := counted(dice.UpTo(67)), counted(dice.UpTo(67))
		ok := len(public) <= 64 && len(secret) <= 64
		if r.Begin(public, secret) != ok {
			t.Fatalf("12.1: Begin of %d and %d bytes: %t", len(public), len(secret), !ok)
		}
		if ok {
			d.arrays[0].Data, d.arrays[1].Data, d.sent = public, secret, [2][]byte{}
		}
	default:
		applet, k, n := dice.UpTo(5)-1, dice.UpTo(9)-1, near(dice)
		ok := applet >= 0 && applet < len(d.fields) && k >= 0 && k < len(d.fields[applet])
		if r.SetField(applet, k, n) != ok {
			t.Fatalf("12.1: SetField(%d, %d): %t", applet, k, !ok)
		}
		if ok {
			d.fields[applet][k] = n
		}
	}
}

// TestByDice: 12.1, 12.2, R2 and R4, rooms and calls by a fixed rule, held against a
// diary; each service ends in each of its statuses among them.
func TestByDice(t *testing.T) {
	seen := map[string]int{}
	for start := range 150 {
		dice := sample.NewDice(uint64(start))
		size := 64 + dice.UpTo(400)
		r, d := made(t, size), newDiary(size)
		for range 120 {
			if dice.UpTo(9) == 0 {
				turn(t, dice, r, d)
			}
			c := call(dice, d)
			want := d.serve(c)
			serves(t, r, c, want)
			seen[fmt.Sprintf("%s %x", code.Name(c.op), want.status)]++
			if got := look(r); got != d.look() {
				t.Fatalf("12: start %d, behind %+v: %s, not %s", start, c, got, d.look())
			}
		}
		for applet := -1; applet <= len(d.applets); applet++ {
			for k := -1; k <= api.MaxImports; k++ {
				to, method, ok := link.Resolve(d.applets, applet, k)
				resolves(t, r, applet, k, to, method, ok)
			}
		}
	}
	wanted := "div 9000,div 6f03,rem 9000,rem 6f03,new 9000,new 6f09,new 6f05,len 9000,len 6f01,len 6f04,pick 6985,copy 6985," +
		"get 9000,get 6f01,get 6f04,get 6f02,put 9000,put 6f01,put 6f04,put 6f02,copy 9000,copy 6f01,copy 6f04,copy 6f02," +
		"same 9000,same 6f01,same 6f04,same 6f02,send 9000,send 6f01,send 6f04,send 6f02,send 6f09"
	for _, what := range slices.Sorted(strings.SplitSeq(wanted, ",")) {
		if seen[what] < 5 {
			t.Errorf("12.2: %s is seen %d times, too few to tell", what, seen[what])
		}
	}
}
