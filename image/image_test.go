package image_test

import (
	"bytes"
	"go/ast"
	"go/parser"
	"go/token"
	"math"
	"slices"
	"strings"
	"testing"
	"unicode/utf8"

	"taciturn/api"
	"taciturn/code"
	"taciturn/image"
	"taciturn/sample"
)

// leastBytes are sample.Least's: each count stands at its place.
const leastBytes = "TACI\x01" + "\x01a" + "\x00" + "\x00" + "\x01" + "\x00\x00\x00" + "\x01\x27" + "\x00"

// someBytes are sample.Some's, part by part.
const someBytes = "TACI\x01" + "\x08pin-1.\u00e9" + "\x02\x02\x03" +
	"\x02" + "\x03log\x03\x02\x01\x04\x02" + "\x08pin-1.\u00e9\x00\x00\x00" +
	"\x02" + "\x00\x00\x02\x04\x01\x03" + "\x01\xff\xff\xff\xfb" + "\x18\x00\x02" + "\x27" +
	"\x01\x02\x03\x00\x02" + "\x1b\x03\x06" + "\x27" +
	"\x03\x01\x00\x01"

// named is an image that is right, with its name in the tests.
type named struct {
	name string
	make func() api.Image
}

// samples are all of them, each made anew where it is asked.
func samples() []named {
	return []named{{"least", sample.Least}, {"some", sample.Some}, {"most", sample.Most}}
}

// isNone tells whether i is the zero value.
func isNone(i api.Image) bool {
	return i.Name == "" && i.Fields == nil && i.Imports == nil && i.Methods == nil && i.Exports == nil
}

// refused checks that Read answers want of b, and no image.
func refused(t *testing.T, name string, b []byte, want api.Errno) {
	t.Helper()
	if i, e := image.Read(b); e != want || !isNone(i) {
		t.Errorf("4.2: %s: Read(%q): %+v, %d, not %d", name, b, i, e, want)
	}
}

// mayStand tells whether the chapter lets a name have r.
func mayStand(r rune) bool {
	for _, may := range "abcdefghijklmnopqrstuvwxyz0123456789-.\u00e0\u00e1\u00e2\u00e3\u00e4\u00e5\u00e6\u00e7\u00e8\u00e9\u00ea\u00eb\u00ec\u00ed\u00ee\u00ef\u00f0\u00f1\u00f2\u00f3\u00f4\u00f5\u00f6\u00f7\u00f8\u00f9\u00fa\u00fb\u00fc\u00fd\u00fe\u00ff" {
		if r == may {
			return true
		}
	}
	return false
}

// TestNameRunes: 4.1, each rune there is, alone, ahead and behind.
func TestNameRunes(t *testing.T) {
	for r := rune(0); r <= utf8.MaxRune; r++ {
		may := mayStand(r)
		for _, s := range []string{string(r), "a" + string(r), string(r) + "9"} {
			if got := image.IsName(s); got != may {
				t.Errorf("4.1: IsName(%q): %t", s, got)
			}
		}
	}
}

// TestNameLength: 4.1, 1 to 16 bytes, however many runes they are.
func TestNameLength(t *testing.T) {
	for n := range 300 {
		if got := image.IsName(strings.Repeat("a", n)); got != (1 <= n && n <= 16) {
			t.Errorf("4.1: %d runes of one byte: %t", n, got)
		}
		if got := image.IsName(strings.Repeat("\u00e0", n)); got != (1 <= n && n <= 8) {
			t.Errorf("4.1: %d runes of two bytes: %t", n, got)
		}
		if got := image.IsName("." + strings.Repeat("\u00ff", n)); got != (n <= 7) {
			t.Errorf("4.1: %d runes of two bytes behind one of one: %t", n, got)
		}
	}
}

// TestNameBytes: 4.1, valid UTF-8 alone: each pair of bytes, and some more.
func TestNameBytes(t *testing.T) {
	for n := range 1 << 16 {
		s := string([]byte{byte(n >> 8), byte(n & 255)})
		want := utf8.ValidString(s)
		for _, r := range s {
			want = want && mayStand(r)
		}
		if got := image.IsName(s); got != want {
			t.Errorf("4.1: IsName(%q): %t", s, got)
		}
	}
	for _, s := range []string{"\xe0", "\xff", "a\xe9", "\xc3", "ab\xc3", "\xa0", "\xc1\xa1", "\xe0\x83\xa0", "\xf0\x80\x83\xa0", "\xed\xa0\x80", "\xef\xbf\xbd", "\xef\xbb\xbfa", "e\u0301"} {
		if image.IsName(s) {
			t.Errorf("4.1: IsName(%q)", s)
		}
	}
}

// turn is what is done to sample.Some, and how the tests name it.
type turn struct {
	name string
	do   func(i *api.Image)
}

// codeOf answers n instructions, the last one a Ret.
func codeOf(n int) []api.Instr {
	return append(slices.Repeat([]api.Instr{{Op: code.Dup}}, n-1), api.Instr{Op: code.Ret})
}

// kindsOf answers n kinds.
func kindsOf(n int) []int {
	return slices.Repeat([]int{api.SecArr}, n)
}

// rightTurns leave sample.Some right, but turn it.
func rightTurns() []turn {
	return []turn{
		{"another name", func(i *api.Image) { i.Name = "x" }},
		{"a name of 16", func(i *api.Image) { i.Name = "0123456789-.abcd" }},
		{"no fields", func(i *api.Image) { i.Fields = nil }},
		{"a field less", func(i *api.Image) { i.Fields = i.Fields[:1] }},
		{"another field", func(i *api.Image) { i.Fields[1] = api.SecArr }},
		{"8 fields", func(i *api.Image) { i.Fields = kindsOf(8) }},
		{"no imports", func(i *api.Image) { i.Imports = nil }},
		{"an import less", func(i *api.Image) { i.Imports = i.Imports[:1] }},
		{"the imports' order", func(i *api.Image) { slices.Reverse(i.Imports) }},
		{"4 imports", func(i *api.Image) { i.Imports = slices.Repeat(i.Imports[:1], 4) }},
		{"an import's name", func(i *api.Image) { i.Imports[1].Name = "log" }},
		{"an import's export", func(i *api.Image) { i.Imports[0].Export = 0 }},
		{"an import without params", func(i *api.Image) { i.Imports[0].Params = nil }},
		{"an import's param", func(i *api.Image) { i.Imports[0].Params[1] = api.PubArr }},
		{"an import of 4 params", func(i *api.Image) { i.Imports[1].Params = kindsOf(4) }},
		{"an import's result", func(i *api.Image) { i.Imports[0].Result = 0 }},
		{"another one's result", func(i *api.Image) { i.Imports[1].Result = api.SecArr }},
		{"a method more", func(i *api.Image) { i.Methods = append(i.Methods, i.Methods[0]) }},
		{"8 methods", func(i *api.Image) { i.Methods = append(i.Methods, slices.Repeat(i.Methods[1:], 6)...) }},
		{"a method without params", func(i *api.Image) { i.Methods[1].Params = nil }},
		{"a method's param", func(i *api.Image) { i.Methods[1].Params[0] = api.PubInt }},
		{"a method of 4 params", func(i *api.Image) { i.Methods[1].Params = kindsOf(4) }},
		{"a method without a result", func(i *api.Image) { i.Methods[1].Result = 0 }},
		{"a method's result", func(i *api.Image) { i.Methods[1].Result = api.PubInt }},
		{"a method without locals", func(i *api.Image) { i.Methods[0].Locals = nil }},
		{"a method's local", func(i *api.Image) { i.Methods[0].Locals[1] = api.SecInt }},
		{"10 locals", func(i *api.Image) { i.Methods[0].Locals = kindsOf(10) }},
		{"9 locals and a param", func(i *api.Image) { i.Methods[1].Locals = kindsOf(9) }},
		{"6 locals and 4 params", func(i *api.Image) { i.Methods[1].Params, i.Methods[1].Locals = kindsOf(4), kindsOf(6) }},
		{"an instruction less", func(i *api.Image) { i.Methods[0].Code = i.Methods[0].Code[:2] }},
		{"120 instructions", func(i *api.Image) { i.Methods[1].Code = codeOf(120) }},
		{"another instruction", func(i *api.Image) { i.Methods[1].Code[1].Op = code.Dup }},
		{"another A", func(i *api.Image) { i.Methods[0].Code[0].A = math.MinInt32 }},
		{"another B", func(i *api.Image) { i.Methods[1].Code[0].B = 2 }},
		{"what verify alone refuses", func(i *api.Image) { i.Methods[0].Code = []api.Instr{{Op: code.Call, A: 7}, {Op: code.Jump, A: 119}} }},
		{"no exports", func(i *api.Image) { i.Exports = nil }},
		{"an export less", func(i *api.Image) { i.Exports = i.Exports[:2] }},
		{"another export", func(i *api.Image) { i.Exports[2] = 0 }},
		{"4 exports", func(i *api.Image) { i.Exports = []int{1, 1, 1, 1} }},
	}
}

// wrongTurns make sample.Some wrong.
func wrongTurns() []turn {
	all := []turn{
		{"no name", func(i *api.Image) { i.Name = "" }},
		{"a name of 17", func(i *api.Image) { i.Name = "0123456789-.abcde" }},
		{"a great letter", func(i *api.Image) { i.Name = "Pin" }},
		{"a name that is no UTF-8", func(i *api.Image) { i.Name = "pin\xe9" }},
		{"9 fields", func(i *api.Image) { i.Fields = kindsOf(9) }},
		{"5 imports", func(i *api.Image) { i.Imports = slices.Repeat(i.Imports[:1], 5) }},
		{"an import without a name", func(i *api.Image) { i.Imports[0].Name = "" }},
		{"the last import's name", func(i *api.Image) { i.Imports[1].Name = "a b" }},
		{"an import of 5 params", func(i *api.Image) { i.Imports[1].Params = kindsOf(5) }},
		{"no methods", func(i *api.Image) { i.Methods, i.Exports = nil, nil }},
		{"an empty list of methods", func(i *api.Image) { i.Methods, i.Exports = []api.Method{}, nil }},
		{"9 methods", func(i *api.Image) { i.Methods = append(i.Methods, slices.Repeat(i.Methods[1:], 7)...) }},
		{"the first one's param", func(i *api.Image) { i.Methods[0].Params = kindsOf(1) }},
		{"the first one's result", func(i *api.Image) { i.Methods[0].Result = api.PubInt }},
		{"another one first", func(i *api.Image) { slices.Reverse(i.Methods) }},
		{"a method of 5 params", func(i *api.Image) { i.Methods[1].Params = kindsOf(5) }},
		{"11 locals", func(i *api.Image) { i.Methods[0].Locals = kindsOf(11) }},
		{"10 locals and a param", func(i *api.Image) { i.Methods[1].Locals = kindsOf(10) }},
		{"7 locals and 4 params", func(i *api.Image) { i.Methods[1].Params, i.Methods[1].Locals = kindsOf(4), kindsOf(7) }},
		{"no code", func(i *api.Image) { i.Methods[0].Code = nil }},
		{"the last one without code", func(i *api.Image) { i.Methods[1].Code = []api.Instr{} }},
		{"121 instructions", func(i *api.Image) { i.Methods[1].Code = codeOf(121) }},
		{"no instruction", func(i *api.Image) { i.Methods[0].Code[0] = api.Instr{} }},
		{"an instruction past the last", func(i *api.Image) { i.Methods[1].Code[1].Op = code.Ret + 1 }},
		{"an A that is not used", func(i *api.Image) { i.Methods[1].Code[1].A = 1 }},
		{"an A out of its range", func(i *api.Image) { i.Methods[0].Code[1].A = 120 }},
		{"a B that is none", func(i *api.Image) { i.Methods[1].Code[0].B = 3 }},
		{"5 exports", func(i *api.Image) { i.Exports = []int{0, 0, 0, 0, 0} }},
		{"a method that is not there", func(i *api.Image) { i.Exports[2] = 2 }},
		{"an export below 0", func(i *api.Image) { i.Exports[0] = -1 }},
		{"an export past a byte", func(i *api.Image) { i.Exports[1] = 256 }},
	}
	return append(all, wrongNumbers()...)
}

// wrongNumbers make sample.Some wrong by a number that is no kind, or no export; some
// would be one once their higher bits are lost.
func wrongNumbers() []turn {
	all := []turn(nil)
	for _, n := range []int{-1, 5, 255, 256, 257, 1<<32 + 1, -255, math.MaxInt, math.MinInt} {
		all = append(all,
			turn{"an import's export", func(i *api.Image) { i.Imports[1].Export = n }},
			turn{"an import's result", func(i *api.Image) { i.Imports[1].Result = n }},
			turn{"a method's result", func(i *api.Image) { i.Methods[1].Result = n }})
	}
	all = append(all, turn{"an import's export of 4", func(i *api.Image) { i.Imports[0].Export = 4 }})
	for _, n := range []int{0, -1, 5, 255, 256, 257, 1<<32 + 1, -255, math.MaxInt, math.MinInt} {
		all = append(all,
			turn{"the first field", func(i *api.Image) { i.Fields[0] = n }},
			turn{"the last field", func(i *api.Image) { i.Fields[1] = n }},
			turn{"an import's first param", func(i *api.Image) { i.Imports[0].Params[0] = n }},
			turn{"an import's last param", func(i *api.Image) { i.Imports[0].Params[1] = n }},
			turn{"a method's param", func(i *api.Image) { i.Methods[1].Params[0] = n }},
			turn{"the first local", func(i *api.Image) { i.Methods[0].Locals[0] = n }},
			turn{"the last local", func(i *api.Image) { i.Methods[0].Locals[1] = n }})
	}
	return all
}

// TestRight: 4.1, what may be, at the ends of each range.
func TestRight(t *testing.T) {
	for _, s := range samples() {
		if !image.Right(s.make()) {
			t.Errorf("4.1: %s", s.name)
		}
	}
	for _, d := range rightTurns() {
		i := sample.Some()
		d.do(&i)
		if !image.Right(i) {
			t.Errorf("4.1: %s: %+v", d.name, i)
		}
		goesRound(t, d.name, i)
	}
	for kind := 1; kind <= 4; kind++ {
		i := sample.Some()
		i.Fields[0], i.Imports[0].Params[0], i.Imports[0].Result = kind, kind, kind
		i.Methods[1].Params[0], i.Methods[1].Result, i.Methods[0].Locals[0] = kind, kind, kind
		i.Imports[1].Export = kind - 1
		if !image.Right(i) {
			t.Errorf("4.1: kind %d", kind)
		}
		goesRound(t, "a kind", i)
	}
}

// TestWrong: 4.1 and 4.2, what may not be; nothing is laid of it.
func TestWrong(t *testing.T) {
	for _, d := range wrongTurns() {
		i := sample.Some()
		d.do(&i)
		if image.Right(i) {
			t.Errorf("4.1: %s: %+v", d.name, i)
		}
		if b, e := image.Lay(i); e != api.ErrArg || b != nil {
			t.Errorf("4.2: %s: % x, %d", d.name, b, e)
		}
	}
	if b, e := image.Lay(api.Image{}); e != api.ErrArg || b != nil || image.Right(api.Image{}) {
		t.Errorf("4.2: of none: % x, %d", b, e)
	}
}

// TestExample: 4.2, the chapter's row.
func TestExample(t *testing.T) {
	i := sample.Least()
	i.Name = "pin-1"
	b, e := image.Lay(i)
	if e != api.OK || len(b) < 11 || !bytes.Equal(b[5:11], []byte{0x05, 0x70, 0x69, 0x6e, 0x2d, 0x31}) {
		t.Errorf("4.2: % x, %d", b, e)
	}
	if back, e := image.Read(b); e != api.OK || back.Name != "pin-1" {
		t.Errorf("4.2: %q, %d", back.Name, e)
	}
}

// TestLay: 4.2, each part at its place, in its bytes.
func TestLay(t *testing.T) {
	if b, e := image.Lay(sample.Least()); e != api.OK || string(b) != leastBytes {
		t.Errorf("4.2: %q, %d", b, e)
	}
	if b, e := image.Lay(sample.Some()); e != api.OK || string(b) != someBytes {
		t.Errorf("4.2: %q, %d", b, e)
	}
	b, e := image.Lay(sample.Most())
	if want := 5 + 17 + 9 + 1 + 4*(17+1+5+1) + 1 + (1 + 1 + 11 + 1 + 600) + 7*(5+1+7+1+600) + 5; e != api.OK || len(b) != want {
		t.Errorf("4.2: %d bytes, %d, not %d", len(b), e, want)
	}
}

// goesRound holds i, which is right, against 4.3.
func goesRound(t *testing.T, name string, i api.Image) {
	t.Helper()
	b, e := image.Lay(i)
	if e != api.OK {
		t.Errorf("4.3: %s: Lay: %d", name, e)
	}
	back, e := image.Read(b)
	if e != api.OK || !image.Same(i, back) || !image.Right(back) {
		t.Errorf("4.3: %s: Read: %+v, %d", name, back, e)
	}
	if again, e := image.Lay(back); e != api.OK || !bytes.Equal(again, b) {
		t.Errorf("4.3: %s: laid again: %q, %d", name, again, e)
	}
}

// TestThereAndBack: 4.3, what is laid is read back; each number is held here,
// so that Same has no word in it.
func TestThereAndBack(t *testing.T) {
	for _, s := range samples() {
		goesRound(t, s.name, s.make())
	}
	back, e := image.Read([]byte(someBytes))
	if e != api.OK {
		t.Fatalf("4.3: %d", e)
	}
	want := sample.Some()
	if back.Name != want.Name || !slices.Equal(back.Fields, want.Fields) || !slices.Equal(back.Exports, want.Exports) || len(back.Imports) != 2 || len(back.Methods) != 2 {
		t.Fatalf("4.3: %+v", back)
	}
	for n, m := range back.Imports {
		w := want.Imports[n]
		if m.Name != w.Name || m.Export != w.Export || !slices.Equal(m.Params, w.Params) || m.Result != w.Result {
			t.Errorf("4.3: import %d: %+v", n, m)
		}
	}
	for n, m := range back.Methods {
		w := want.Methods[n]
		if !slices.Equal(m.Params, w.Params) || m.Result != w.Result || !slices.Equal(m.Locals, w.Locals) || !slices.Equal(m.Code, w.Code) {
			t.Errorf("4.3: method %d: %+v", n, m)
		}
	}
}

// TestShort: 4.2, each image that ends too early, at each place.
func TestShort(t *testing.T) {
	refused(t, "none", nil, api.ErrShort)
	refused(t, "none", []byte{}, api.ErrShort)
	for _, s := range samples() {
		b, _ := image.Lay(s.make())
		for n := range b {
			refused(t, s.name, b[:n], api.ErrShort)
		}
	}
}

// TestLong: 4.2, more than 8192 bytes are told ahead of anything else.
func TestLong(t *testing.T) {
	begins := []string{"", "TACI\x01", "XXXX\x01", leastBytes, someBytes[:20]}
	for _, begin := range begins {
		for _, n := range []int{8193, 8194, 16384, 1 << 20} {
			refused(t, "too long", append([]byte(begin), make([]byte, n-len(begin))...), api.ErrLong)
		}
	}
	atEnd := append([]byte(leastBytes), make([]byte, 8192-len(leastBytes))...)
	refused(t, "of 8192 bytes", atEnd, api.ErrForm)
	refused(t, "of 8192 bytes", make([]byte, 8192), api.ErrForm)
}

// TestMark: 4.2, the text and the 1: others are ErrForm, but short if they are
// not there whole.
func TestMark(t *testing.T) {
	for at := range 5 {
		for n := range 256 {
			b := []byte(leastBytes)
			if b[at] == byte(n) {
				continue
			}
			b[at] = byte(n)
			refused(t, "the mark", b, api.ErrForm)
			refused(t, "the mark alone", b[:5], api.ErrForm)
			refused(t, "the mark, not whole", b[:4], api.ErrShort)
		}
	}
	refused(t, "nothing behind the mark", []byte("TACI\x01"), api.ErrShort)
	refused(t, "one byte of another mark", []byte("X"), api.ErrShort)
	refused(t, "small letters", []byte("taci"+leastBytes[4:]), api.ErrForm)
}

// TestReadErrors: 4.2, part by part from the front: what is wrong there, and
// which of several errors is told.
func TestReadErrors(t *testing.T) {
	const head, none = "TACI\x01\x01a", "\x00\x00\x00"
	cases := []struct {
		name string
		b    string
		want api.Errno
	}{
		{"a byte more", leastBytes + "\x00", api.ErrForm},
		{"an image more", leastBytes + leastBytes, api.ErrForm},
		{"an empty name", "TACI\x01\x00" + leastBytes[7:], api.ErrForm},
		{"a wrong name", "TACI\x01\x01A" + leastBytes[7:], api.ErrForm},
		{"a name of 17", "TACI\x01\x11aaaaaaaaaaaaaaaaa" + leastBytes[7:], api.ErrForm},
		{"a name of half a rune", "TACI\x01\x01\xc3" + leastBytes[7:], api.ErrForm},
		{"a name of 255, short", "TACI\x01\xffA" + leastBytes[7:], api.ErrShort},
		{"a wrong name, and short behind", "TACI\x01\x01A\x00\x00\x01", api.ErrShort},
		{"a wrong name, and no instruction", "TACI\x01\x01A\x00\x00\x01" + none + "\x01\xff", api.ErrOp},
		{"a field of 0", head + "\x01\x00\x00\x01" + none + "\x01\x27\x00", api.ErrForm},
		{"a field of 5", head + "\x02\x01\x05\x00\x01" + none + "\x01\x27\x00", api.ErrForm},
		{"9 fields", head + "\x09\x01\x01\x01\x01\x01\x01\x01\x01\x01\x00\x01" + none + "\x01\x27\x00", api.ErrForm},
		{"9 fields, short", head + "\x09\x01\x01\x01\x01\x01\x01\x01\x01", api.ErrShort},
		{"255 fields, short", head + "\xff\x00\x01" + none + "\x01\xff\x00", api.ErrShort},
		{"an import without a name", head + "\x00\x01\x00\x00\x00\x00\x01" + none + "\x01\x27\x00", api.ErrForm},
		{"an import's export of 4", head + "\x00\x01\x01a\x04\x00\x00\x01" + none + "\x01\x27\x00", api.ErrForm},
		{"an import's param of 0", head + "\x00\x01\x01a\x03\x01\x00\x00\x01" + none + "\x01\x27\x00", api.ErrForm},
		{"an import's 5 params", head + "\x00\x01\x01a\x03\x05\x01\x01\x01\x01\x01\x00\x01" + none + "\x01\x27\x00", api.ErrForm},
		{"an import's result of 5", head + "\x00\x01\x01a\x03\x00\x05\x01" + none + "\x01\x27\x00", api.ErrForm},
		{"5 imports", head + "\x00\x05" + strings.Repeat("\x01a\x00\x00\x00", 5) + "\x01" + none + "\x01\x27\x00", api.ErrForm},
		{"5 imports, short", head + "\x00\x05" + strings.Repeat("\x01a\x00\x00\x00", 4), api.ErrShort},
		{"255 imports, short", head + "\x00\xff\x01a\x00\x00\x00", api.ErrShort},
		{"no methods", head + "\x00\x00\x00\x00", api.ErrForm},
		{"no methods, and an export", head + "\x00\x00\x00\x01\x00", api.ErrForm},
		{"9 methods", head + "\x00\x00\x09" + strings.Repeat(none+"\x01\x27", 9) + "\x00", api.ErrForm},
		{"9 methods, the last without an instruction", head + "\x00\x00\x09" + strings.Repeat(none+"\x01\x27", 8) + none + "\x01\x28\x00", api.ErrOp},
		{"9 methods, short", head + "\x00\x00\x09" + strings.Repeat(none+"\x01\x27", 8), api.ErrShort},
		{"255 methods, short", head + "\x00\x00\xff" + strings.Repeat(none+"\x01\x27", 8), api.ErrShort},
		{"the first one's param", head + "\x00\x00\x01\x01\x01\x00\x00\x01\x27\x00", api.ErrForm},
		{"the first one's result", head + "\x00\x00\x01\x00\x01\x00\x01\x27\x00", api.ErrForm},
		{"a local of 5", head + "\x00\x00\x01\x00\x00\x01\x05\x01\x27\x00", api.ErrForm},
		{"11 locals", head + "\x00\x00\x01\x00\x00\x0b" + strings.Repeat("\x01", 11) + "\x01\x27\x00", api.ErrForm},
		{"no code", head + "\x00\x00\x01" + none + "\x00\x00", api.ErrForm},
		{"121 instructions", head + "\x00\x00\x01" + none + "\x79" + strings.Repeat("\x27", 121) + "\x00", api.ErrForm},
		{"255 instructions", head + "\x00\x00\x01" + none + "\xff" + strings.Repeat("\x27", 255) + "\x00", api.ErrForm},
		{"255 instructions, short", head + "\x00\x00\x01" + none + "\xff" + strings.Repeat("\x27", 254), api.ErrShort},
		{"255 instructions, the last one none", head + "\x00\x00\x01" + none + "\xff" + strings.Repeat("\x27", 254) + "\x28", api.ErrOp},
		{"instruction 0", head + "\x00\x00\x01" + none + "\x01\x00\x00", api.ErrOp},
		{"no instruction, and short behind", head + "\x00\x00\x01" + none + "\x02\x28", api.ErrOp},
		{"out of range, and short behind", head + "\x00\x00\x01" + none + "\x02\x02\x0a", api.ErrRange},
		{"out of range, then no instruction", head + "\x00\x00\x01" + none + "\x02\x1b\x03\x03\x28\x00", api.ErrRange},
		{"no instruction, then out of range", head + "\x00\x00\x01" + none + "\x02\x28\x1b\x03\x03\x00", api.ErrOp},
		{"out of range in the second method", head + "\x00\x00\x02" + none + "\x01\x27" + none + "\x01\x17\x00\x78\x00", api.ErrRange},
		{"half an instruction", head + "\x00\x00\x01" + none + "\x01\x01\xff\xff\xff", api.ErrShort},
		{"half an instruction, out of range", head + "\x00\x00\x01" + none + "\x01\x1b\x09", api.ErrShort},
		{"wrong kinds, then no instruction", head + "\x01\x09\x00\x01\x01\x09\x09\x01\x09\x01\x28", api.ErrOp},
		{"an export of no method", head + "\x00\x00\x01" + none + "\x01\x27\x01\x01", api.ErrForm},
		{"an export of 255", head + "\x00\x00\x01" + none + "\x01\x27\x01\xff", api.ErrForm},
		{"5 exports", head + "\x00\x00\x01" + none + "\x01\x27\x05\x00\x00\x00\x00\x00", api.ErrForm},
		{"5 exports, short", head + "\x00\x00\x01" + none + "\x01\x27\x05\x00\x00\x00\x00", api.ErrShort},
	}
	for _, c := range cases {
		refused(t, c.name, []byte(c.b), c.want)
	}
}

// stands holds b against 4.3 and W5: it is refused, or it is an image that is
// right, and is laid as just these bytes.
func stands(t *testing.T, b []byte) {
	t.Helper()
	i, e := image.Read(b)
	if e != api.OK {
		if !isNone(i) {
			t.Errorf("R3: Read(%q): %+v, %d", b, i, e)
		}
		return
	}
	laid, e := image.Lay(i)
	if e != api.OK || !bytes.Equal(laid, b) || !image.Right(i) {
		t.Errorf("4.3: Read(%q): %+v, laid as %q, %d", b, i, laid, e)
	}
}

// TestAllBytes: 4.3 and W5, each byte of an image turned into each other one,
// left out, or laid twice.
func TestAllBytes(t *testing.T) {
	for _, good := range []string{leastBytes, someBytes} {
		for at := range len(good) {
			b := []byte(good)
			for n := range 256 {
				b[at] = byte(n)
				stands(t, b)
			}
			stands(t, []byte(good[:at]+good[at+1:]))
			stands(t, []byte(good[:at+1]+good[at:]))
		}
	}
}

// TestAnyImages: 4.1, 4.3 and W5, images of all kinds, and their bytes with some
// of them turned.
func TestAnyImages(t *testing.T) {
	d := sample.NewDice(4)
	for range 300 {
		i := d.Image()
		if !image.Right(i) {
			t.Errorf("4.1: %+v", i)
		}
		goesRound(t, "any", i)
		good, _ := image.Lay(i)
		for range 30 {
			b := bytes.Clone(good)
			for range 1 + d.UpTo(2) {
				b[d.UpTo(len(b)-1)] = byte(d.UpTo(255))
			}
			stands(t, b)
		}
	}
}

// TestSame: each part counts, its order and its length; nil and an empty list
// are the same.
func TestSame(t *testing.T) {
	for _, s := range samples() {
		if !image.Same(s.make(), s.make()) {
			t.Errorf("4: %s is not the same", s.name)
		}
	}
	for _, d := range append(rightTurns(), wrongTurns()...) {
		i, again := sample.Some(), sample.Some()
		d.do(&i)
		d.do(&again)
		if image.Same(i, sample.Some()) || image.Same(sample.Some(), i) {
			t.Errorf("4: %s: the same", d.name)
		}
		if !image.Same(i, again) {
			t.Errorf("4: %s: not the same twice", d.name)
		}
	}
	empty := sample.Empty()
	if !image.Same(empty, sample.Least()) || !image.Same(sample.Least(), empty) || !image.Right(empty) {
		t.Error("R2: nil and an empty list")
	}
	if b, e := image.Lay(empty); e != api.OK || string(b) != leastBytes {
		t.Errorf("R2: empty lists are laid as %q, %d", b, e)
	}
	if !image.Same(api.Image{}, api.Image{Methods: []api.Method{}}) || image.Same(api.Image{}, sample.Least()) {
		t.Error("R2: none and an empty list")
	}
}

// TestHandedIn: R2, what is handed in is not changed, nor kept, nor is its
// spare room looked at.
func TestHandedIn(t *testing.T) {
	i, whole := sample.Roomy()
	b, e := image.Lay(i)
	if e != api.OK || string(b) != someBytes || !image.Right(i) || !image.Same(i, i) || !whole() {
		t.Errorf("R2: %q, %d", b, e)
	}
	i.Fields[0], i.Methods[0].Code[0].A = api.PubInt, 9
	if string(b) != someBytes {
		t.Errorf("R2: an image that was handed in was kept: %q", b)
	}
	room := []byte(someBytes + "\x00\x00")
	given := room[:len(someBytes)]
	back, e := image.Read(given)
	if e != api.OK || string(room) != someBytes+"\x00\x00" {
		t.Errorf("R2: %q, %d", room, e)
	}
	for at := range room {
		room[at] = 255
	}
	if !image.Same(back, sample.Some()) {
		t.Errorf("R2: bytes that were handed in were kept: %+v", back)
	}
}

// TestAnswers: R2, no two lists of an answer share memory, nor do two answers.
func TestAnswers(t *testing.T) {
	first, _ := image.Lay(sample.Some())
	second, _ := image.Lay(sample.Some())
	first = first[:cap(first)]
	for at := range first {
		first[at] = 255
	}
	if string(second) != someBytes {
		t.Errorf("R2: %q", second)
	}
	b := []byte(someBytes)
	other, _ := image.Read(b)
	turned, _ := image.Read(b)
	if !sample.Apart(turned) {
		t.Error("R2: two lists of an answer share memory")
	}
	sample.Spoil(turned)
	if !image.Same(other, sample.Some()) || string(b) != someBytes {
		t.Error("R2: two answers share memory")
	}
}

// TestRunes: the chapter's Ways, names by range over a string: IsName ranges
// over its argument, with a value.
func TestRunes(t *testing.T) {
	file, err := parser.ParseFile(token.NewFileSet(), "image.go", nil, 0)
	if err != nil {
		t.Fatal(err)
	}
	found := false
	for _, d := range file.Decls {
		f, isFunc := d.(*ast.FuncDecl)
		if !isFunc || f.Name.Name != "IsName" {
			continue
		}
		argument := f.Type.Params.List[0].Names[0].Name
		ast.Inspect(f, func(node ast.Node) bool {
			loop, is := node.(*ast.RangeStmt)
			if is && loop.Value != nil {
				over, isArgument := loop.X.(*ast.Ident)
				found = found || isArgument && over.Name == argument
			}
			return true
		})
	}
	if !found {
		t.Error("Ways: IsName has no range over its name")
	}
}
