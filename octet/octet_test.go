package octet_test

import (
	"bytes"
	"math"
	"testing"

	"taciturn/octet"
)

// written answers what a new Writer has when lay is done.
func written(lay func(w *octet.Writer)) []byte {
	w := octet.NewWriter()
	lay(w)
	return w.Bytes()
}

// counted answers n bytes that are all different from their neighbours.
func counted(n int) []byte {
	b := make([]byte, n)
	for i := range b {
		b[i] = byte(i + 1)
	}
	return b
}

// TestExample: 1.1, the chapter's row.
func TestExample(t *testing.T) {
	got := written(func(w *octet.Writer) {
		w.U16(258)
		w.Short([]byte("ab"))
	})
	if !bytes.Equal(got, []byte{1, 2, 2, 0x61, 0x62}) {
		t.Errorf("1.1: % x", got)
	}
}

// TestWriterNumbers: 1.1, each number modulo its width, the highest byte first.
func TestWriterNumbers(t *testing.T) {
	cases := []struct {
		n            int
		u8, u16, s32 []byte
	}{
		{0, []byte{0}, []byte{0, 0}, []byte{0, 0, 0, 0}},
		{1, []byte{1}, []byte{0, 1}, []byte{0, 0, 0, 1}},
		{127, []byte{127}, []byte{0, 127}, []byte{0, 0, 0, 127}},
		{128, []byte{128}, []byte{0, 128}, []byte{0, 0, 0, 128}},
		{255, []byte{255}, []byte{0, 255}, []byte{0, 0, 0, 255}},
		{256, []byte{0}, []byte{1, 0}, []byte{0, 0, 1, 0}},
		{65535, []byte{255}, []byte{255, 255}, []byte{0, 0, 255, 255}},
		{65536, []byte{0}, []byte{0, 0}, []byte{0, 1, 0, 0}},
		{0x01020304, []byte{4}, []byte{3, 4}, []byte{1, 2, 3, 4}},
		{0x8090a0b0, []byte{0xb0}, []byte{0xa0, 0xb0}, []byte{0x80, 0x90, 0xa0, 0xb0}},
		{math.MaxInt32, []byte{255}, []byte{255, 255}, []byte{127, 255, 255, 255}},
		{math.MinInt32, []byte{0}, []byte{0, 0}, []byte{128, 0, 0, 0}},
		{1<<32 - 1, []byte{255}, []byte{255, 255}, []byte{255, 255, 255, 255}},
		{1 << 32, []byte{0}, []byte{0, 0}, []byte{0, 0, 0, 0}},
		{1<<40 + 0x0a0b0c0d, []byte{0x0d}, []byte{0x0c, 0x0d}, []byte{0x0a, 0x0b, 0x0c, 0x0d}},
		{-1, []byte{255}, []byte{255, 255}, []byte{255, 255, 255, 255}},
		{-2, []byte{254}, []byte{255, 254}, []byte{255, 255, 255, 254}},
		{-256, []byte{0}, []byte{255, 0}, []byte{255, 255, 255, 0}},
		{-257, []byte{255}, []byte{254, 255}, []byte{255, 255, 254, 255}},
		{math.MaxInt, []byte{255}, []byte{255, 255}, []byte{255, 255, 255, 255}},
		{math.MinInt, []byte{0}, []byte{0, 0}, []byte{0, 0, 0, 0}},
	}
	for _, c := range cases {
		if got := written(func(w *octet.Writer) { w.U8(c.n) }); !bytes.Equal(got, c.u8) {
			t.Errorf("1.1: U8(%d): % x", c.n, got)
		}
		if got := written(func(w *octet.Writer) { w.U16(c.n) }); !bytes.Equal(got, c.u16) {
			t.Errorf("1.1: U16(%d): % x", c.n, got)
		}
		if got := written(func(w *octet.Writer) { w.S32(c.n) }); !bytes.Equal(got, c.s32) {
			t.Errorf("1.1: S32(%d): % x", c.n, got)
		}
	}
}

// TestWriterOrder: 1.1, at first none, then all so far, one behind the other.
func TestWriterOrder(t *testing.T) {
	w := octet.NewWriter()
	if len(w.Bytes()) != 0 {
		t.Errorf("1.1: at first: % x", w.Bytes())
	}
	w.Raw(nil)
	w.Raw([]byte{})
	if len(w.Bytes()) != 0 {
		t.Errorf("1.1: Raw of none: % x", w.Bytes())
	}
	want := []byte(nil)
	steps := []struct {
		lay  func()
		laid []byte
	}{
		{func() { w.U8(7) }, []byte{7}},
		{func() { w.Raw([]byte{0, 255, 0}) }, []byte{0, 255, 0}},
		{func() { w.U16(0x0506) }, []byte{5, 6}},
		{func() { w.Short([]byte{9}) }, []byte{1, 9}},
		{func() { w.S32(-1) }, []byte{255, 255, 255, 255}},
		{func() { w.Raw(counted(300)) }, counted(300)},
	}
	for i, s := range steps {
		s.lay()
		want = append(want, s.laid...)
		if !bytes.Equal(w.Bytes(), want) || !bytes.Equal(w.Bytes(), want) {
			t.Errorf("1.1: behind step %d: % x", i, w.Bytes())
		}
	}
}

// TestWriterShort: 1.1, up to 255 bytes; nothing is laid of more.
func TestWriterShort(t *testing.T) {
	for _, n := range []int{0, 1, 2, 127, 128, 254, 255} {
		w := octet.NewWriter()
		if !w.Short(counted(n)) {
			t.Errorf("1.1: Short of %d: false", n)
		}
		if want := append([]byte{byte(n)}, counted(n)...); !bytes.Equal(w.Bytes(), want) {
			t.Errorf("1.1: Short of %d: % x", n, w.Bytes())
		}
	}
	w := octet.NewWriter()
	if !w.Short(nil) || !bytes.Equal(w.Bytes(), []byte{0}) {
		t.Errorf("1.1: Short of nil: % x", w.Bytes())
	}
	for _, n := range []int{256, 257, 511, 512, 65536} {
		w := octet.NewWriter()
		w.U8(3)
		if w.Short(counted(n)) {
			t.Errorf("1.1: Short of %d: true", n)
		}
		w.U8(4)
		if !bytes.Equal(w.Bytes(), []byte{3, 4}) {
			t.Errorf("1.1: Short of %d: % x", n, w.Bytes())
		}
	}
}

// TestWriterMemory: R2, nothing is shared with what comes in or goes out.
func TestWriterMemory(t *testing.T) {
	room := []byte{1, 2, 3, 4, 5, 6}
	given := room[1:3]
	w := octet.NewWriter()
	w.Raw(given)
	w.Short(given)
	w.U8(9)
	if !bytes.Equal(room, []byte{1, 2, 3, 4, 5, 6}) {
		t.Errorf("R2: what was handed in was changed: % x", room)
	}
	room[1], room[2] = 70, 80
	want := []byte{2, 3, 2, 2, 3, 9}
	first := w.Bytes()
	if !bytes.Equal(first, want) {
		t.Errorf("R2: what was handed in was kept: % x", first)
	}
	second := w.Bytes()
	first = first[:cap(first)]
	for i := range first {
		first[i] = 77
	}
	if !bytes.Equal(w.Bytes(), want) || !bytes.Equal(second, want) {
		t.Errorf("R2: an answer is shared: % x, % x", w.Bytes(), second)
	}
	w.U8(10)
	if first[len(first)-1] != 77 || !bytes.Equal(w.Bytes(), append(want, 10)) {
		t.Errorf("R2: an answer's spare room is shared: % x", w.Bytes())
	}
}

// TestObjectsApart: R7, no two Writers and no two Readers share anything.
func TestObjectsApart(t *testing.T) {
	v, w := octet.NewWriter(), octet.NewWriter()
	v.U8(1)
	w.U8(2)
	if !bytes.Equal(v.Bytes(), []byte{1}) || !bytes.Equal(w.Bytes(), []byte{2}) {
		t.Errorf("R7: writers: % x, % x", v.Bytes(), w.Bytes())
	}
	b := []byte{1, 2}
	q, r := octet.NewReader(b), octet.NewReader(b)
	q.Raw(3)
	if r.Lack() || r.Left() != 2 || r.U8() != 1 || !q.Lack() || q.Left() != 0 {
		t.Error("R7: readers")
	}
}

// TestReaderNumbers: 1.2, U8 and U16 from 0 on, S32 with a sign.
func TestReaderNumbers(t *testing.T) {
	take8 := func(r *octet.Reader) int { return r.U8() }
	take16 := func(r *octet.Reader) int { return r.U16() }
	take32 := func(r *octet.Reader) int { return r.S32() }
	cases := []struct {
		name string
		take func(r *octet.Reader) int
		from []byte
		want int
	}{
		{"U8", take8, []byte{0}, 0},
		{"U8", take8, []byte{127}, 127},
		{"U8", take8, []byte{128}, 128},
		{"U8", take8, []byte{255}, 255},
		{"U16", take16, []byte{0, 0}, 0},
		{"U16", take16, []byte{1, 2}, 258},
		{"U16", take16, []byte{127, 255}, 32767},
		{"U16", take16, []byte{128, 0}, 32768},
		{"U16", take16, []byte{255, 255}, 65535},
		{"S32", take32, []byte{0, 0, 0, 0}, 0},
		{"S32", take32, []byte{1, 2, 3, 4}, 0x01020304},
		{"S32", take32, []byte{0, 0, 255, 255}, 65535},
		{"S32", take32, []byte{127, 255, 255, 255}, math.MaxInt32},
		{"S32", take32, []byte{128, 0, 0, 0}, math.MinInt32},
		{"S32", take32, []byte{255, 255, 255, 255}, -1},
		{"S32", take32, []byte{255, 255, 255, 254}, -2},
	}
	for _, c := range cases {
		r := octet.NewReader(append(bytes.Clone(c.from), 99))
		if got := c.take(r); got != c.want || r.Lack() || r.Left() != 1 || r.U8() != 99 {
			t.Errorf("1.2: %s of % x: %d", c.name, c.from, got)
		}
	}
}

// TestReaderCounts: 1.2, Left goes down by what is taken; the end is no lack.
func TestReaderCounts(t *testing.T) {
	r := octet.NewReader([]byte{1, 2, 3, 4, 5, 6, 7, 8, 9, 2, 10, 11, 0})
	if r.Left() != 13 || r.Lack() {
		t.Errorf("1.2: at first: %d", r.Left())
	}
	steps := []struct {
		take func()
		left int
	}{
		{func() { r.U8() }, 12},
		{func() { r.U16() }, 10},
		{func() { r.S32() }, 6},
		{func() { r.Raw(0) }, 6},
		{func() { r.Raw(2) }, 4},
		{func() { r.Short() }, 1},
		{func() { r.Short() }, 0},
		{func() { r.Raw(0) }, 0},
	}
	for i, s := range steps {
		s.take()
		if r.Left() != s.left || r.Lack() {
			t.Errorf("1.2: behind step %d: Left %d, Lack %t", i, r.Left(), r.Lack())
		}
	}
}

// TestReaderBytes: 1.2, Raw and Short take just the bytes that stand there.
func TestReaderBytes(t *testing.T) {
	r := octet.NewReader([]byte{5, 6, 7, 3, 8, 9, 10, 0, 11})
	if got := r.Raw(0); len(got) != 0 || r.Left() != 9 {
		t.Errorf("1.2: Raw(0): % x", got)
	}
	if got := r.Raw(3); !bytes.Equal(got, []byte{5, 6, 7}) {
		t.Errorf("1.2: Raw(3): % x", got)
	}
	if got := r.Short(); !bytes.Equal(got, []byte{8, 9, 10}) {
		t.Errorf("1.2: Short: % x", got)
	}
	if got := r.Short(); len(got) != 0 || r.Left() != 1 {
		t.Errorf("1.2: Short of none: % x", got)
	}
	if got := r.Raw(1); !bytes.Equal(got, []byte{11}) || r.Lack() {
		t.Errorf("1.2: Raw of all that is left: % x", got)
	}
	r = octet.NewReader(append([]byte{255}, counted(255)...))
	if got := r.Short(); !bytes.Equal(got, counted(255)) || r.Lack() || r.Left() != 0 {
		t.Errorf("1.2: Short of 255: % x", got)
	}
}

// TestReaderLack: 1.2, who takes beyond the end gets 0, and nothing any more.
func TestReaderLack(t *testing.T) {
	cases := []struct {
		name string
		from []byte
		take func(r *octet.Reader) int
	}{
		{"U8 of none", nil, func(r *octet.Reader) int { return r.U8() }},
		{"U8 of an empty list", []byte{}, func(r *octet.Reader) int { return r.U8() }},
		{"U16 of none", nil, func(r *octet.Reader) int { return r.U16() }},
		{"U16 of one", []byte{7}, func(r *octet.Reader) int { return r.U16() }},
		{"S32 of none", nil, func(r *octet.Reader) int { return r.S32() }},
		{"S32 of one", []byte{7}, func(r *octet.Reader) int { return r.S32() }},
		{"S32 of three", []byte{7, 7, 7}, func(r *octet.Reader) int { return r.S32() }},
		{"Raw(1) of none", nil, func(r *octet.Reader) int { return len(r.Raw(1)) }},
		{"Raw of one too many", []byte{7, 7}, func(r *octet.Reader) int { return len(r.Raw(3)) }},
		{"Raw of the greatest", []byte{7, 7}, func(r *octet.Reader) int { return len(r.Raw(math.MaxInt)) }},
		{"Raw(-1)", []byte{7, 7}, func(r *octet.Reader) int { return len(r.Raw(-1)) }},
		{"Raw(-1) of none", nil, func(r *octet.Reader) int { return len(r.Raw(-1)) }},
		{"Raw of the least", []byte{7, 7}, func(r *octet.Reader) int { return len(r.Raw(math.MinInt)) }},
		{"Short of none", nil, func(r *octet.Reader) int { return len(r.Short()) }},
		{"Short without bytes", []byte{1}, func(r *octet.Reader) int { return len(r.Short()) }},
		{"Short of one too few", []byte{3, 7, 7}, func(r *octet.Reader) int { return len(r.Short()) }},
		{"Short of 255", []byte{255, 7, 7}, func(r *octet.Reader) int { return len(r.Short()) }},
	}
	for _, c := range cases {
		r := octet.NewReader(c.from)
		if r.Lack() || r.Left() != len(c.from) {
			t.Errorf("1.2: %s: it lacks from the start", c.name)
		}
		if n := c.take(r); n != 0 {
			t.Errorf("1.2: %s: %d", c.name, n)
		}
		staysLacking(t, c.name, r)
	}
}

// staysLacking holds r against 1.2: every answer is 0, or none, from now on.
func staysLacking(t *testing.T, name string, r *octet.Reader) {
	t.Helper()
	for range 2 {
		if !r.Lack() || r.Left() != 0 {
			t.Errorf("1.2: %s: Lack %t, Left %d", name, r.Lack(), r.Left())
		}
		if r.U8() != 0 || r.U16() != 0 || r.S32() != 0 {
			t.Errorf("1.2: %s: a number behind a lack", name)
		}
		if len(r.Raw(0)) != 0 || len(r.Raw(1)) != 0 || len(r.Raw(-1)) != 0 || len(r.Short()) != 0 {
			t.Errorf("1.2: %s: bytes behind a lack", name)
		}
	}
}

// TestReaderMemory: R2, nothing is shared with what comes in or goes out.
func TestReaderMemory(t *testing.T) {
	room := []byte{0, 1, 2, 3, 2, 4, 5, 6, 99}
	r := octet.NewReader(room[1:8])
	room[1], room[5], room[7] = 70, 70, 70
	raw := r.Raw(3)
	if !bytes.Equal(raw, []byte{1, 2, 3}) {
		t.Errorf("R2: what was handed in was kept: % x", raw)
	}
	for i := range raw[:cap(raw)] {
		raw[:cap(raw)][i] = 77
	}
	short := r.Short()
	if !bytes.Equal(short, []byte{4, 5}) {
		t.Errorf("R2: Raw's spare room is shared: % x", short)
	}
	for i := range short[:cap(short)] {
		short[:cap(short)][i] = 77
	}
	if r.Left() != 1 || r.U8() != 6 || r.Lack() {
		t.Error("R2: Short's spare room is shared")
	}
	if !bytes.Equal(room, []byte{0, 70, 2, 3, 2, 70, 5, 70, 99}) {
		t.Errorf("R2: what was handed in was changed: % x", room)
	}
	r = octet.NewReader(room[1:3])
	if r.Left() != 2 || len(r.Raw(3)) != 0 || !r.Lack() {
		t.Error("R2: spare room was read")
	}
}

// TestThereAndBack: 1.1 and 1.2, what a Writer lays a Reader takes.
func TestThereAndBack(t *testing.T) {
	numbers := []int{0, 1, 255, 256, 65535, 65536, math.MaxInt32, math.MinInt32, -1, -255, -65536}
	w := octet.NewWriter()
	for i, n := range numbers {
		w.U8(n)
		w.U16(n)
		w.S32(n)
		w.Raw(counted(i))
		w.Short(counted(i * 25))
	}
	r := octet.NewReader(w.Bytes())
	for i, n := range numbers {
		if got := r.U8(); got != n&255 {
			t.Errorf("U8 of %d: %d", n, got)
		}
		if got := r.U16(); got != n&65535 {
			t.Errorf("U16 of %d: %d", n, got)
		}
		if got := r.S32(); got != int(int32(n)) {
			t.Errorf("S32 of %d: %d", n, got)
		}
		if got := r.Raw(i); !bytes.Equal(got, counted(i)) {
			t.Errorf("Raw of %d: % x", i, got)
		}
		if got := r.Short(); !bytes.Equal(got, counted(i*25)) {
			t.Errorf("Short of %d: % x", i*25, got)
		}
	}
	if r.Left() != 0 || r.Lack() {
		t.Errorf("behind all: Left %d, Lack %t", r.Left(), r.Lack())
	}
}
