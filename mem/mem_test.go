package mem_test

import (
	"bytes"
	"go/ast"
	"go/parser"
	"go/token"
	"math"
	"os"
	"slices"
	"strings"
	"testing"

	"taciturn/api"
	"taciturn/mem"
)

// far are addresses that are none, whose low bits look like one that is.
var far = []int{
	math.MinInt, math.MinInt + mem.Fields, -1 << 40, -1<<32 + mem.Fields, -1 << 32, -mem.StackTop, -mem.Fields,
	mem.StackTop + mem.Fields, 1 << 31, 1 << 32, 1<<32 + 4, 1<<32 + mem.Fields, 1<<40 + mem.Fields,
	math.MaxInt - 7, math.MaxInt - 3, math.MaxInt - 1, math.MaxInt,
}

// teller is what the chapter says, told apart from the package: a byte an address.
type teller map[int]byte

// takes tells whether a thing of size bytes stands at an address, from a first one
// on and below an end.
func takes(at, size, from, end int) bool {
	return at >= from && at < end && at%size == 0
}

// lay puts the n lowest bytes of a number from at on.
func (w teller) lay(at, n int, number uint32) {
	for i := range n {
		w[at+i] = byte(number >> (8 * i))
	}
}

// load lays halfwords, if all of them are code's.
func (w teller) load(at int, half []uint16) bool {
	if at < 0 || at > mem.CodeEnd || at%2 != 0 || at+2*len(half) > mem.CodeEnd {
		return false
	}
	for i, h := range half {
		w.lay(at+2*i, 2, uint32(h))
	}
	return true
}

// number answers the n bytes from at on, the lowest first, of a thing that stands
// there; else 0.
func (w teller) number(at, n int, is bool) uint32 {
	sum := uint32(0)
	for i := 0; is && i < n; i++ {
		sum += uint32(w[at+i]) << (8 * i)
	}
	return sum
}

// asks holds what m answers of one address against the teller.
func (w teller) asks(t *testing.T, when string, m *mem.Memory, at int) {
	t.Helper()
	is := takes(at, 2, 0, mem.CodeEnd)
	want := w.number(at, 2, is)
	if got, ok := m.Half(at); uint32(got) != want || ok != is {
		t.Errorf("15.1: %s: Half(%#x): %#x, %t, not %#x, %t", when, at, got, ok, want, is)
	}
	is = takes(at, 4, 0, mem.StackTop)
	want = w.number(at, 4, is)
	if got, ok := m.Word(at); got != want || ok != is {
		t.Errorf("15.1: %s: Word(%#x): %#x, %t, not %#x, %t", when, at, got, ok, want, is)
	}
	is = takes(at, 1, 0, mem.StackTop)
	want = w.number(at, 1, is)
	if got, ok := m.Byte(at); uint32(got) != want || ok != is {
		t.Errorf("15.1: %s: Byte(%#x): %#x, %t, not %#x, %t", when, at, got, ok, want, is)
	}
}

// all holds each address, those around the ends and far ones against the teller.
func (w teller) all(t *testing.T, when string, m *mem.Memory) {
	t.Helper()
	for at := -9; at < mem.StackTop+9 && !t.Failed(); at++ {
		w.asks(t, when, m, at)
	}
	for _, at := range far {
		w.asks(t, when, m, at)
	}
}

// counted answers n halfwords whose bytes are not 0, and unlike their neighbours.
func counted(n int) []uint16 {
	half := make([]uint16, n)
	for i := range half {
		half[i] = uint16(i%251+1)<<8 | uint16(i%241+2)
	}
	return half
}

// whole answers all of m's bytes.
func whole(t *testing.T, m *mem.Memory) []byte {
	t.Helper()
	all := make([]byte, mem.StackTop)
	for at := range all {
		b, ok := m.Byte(at)
		if !ok {
			t.Fatalf("15.1: Byte(%#x): false", at)
		}
		all[at] = b
	}
	return all
}

// filled answers a memory with a byte that is not 0 nearly everywhere, and its teller.
func filled(t *testing.T) (*mem.Memory, teller) {
	t.Helper()
	m, w := mem.New(), teller{}
	half := counted(mem.CodeEnd / 2)
	if !m.Load(0, half) || !w.load(0, half) {
		t.Fatal("15.1: Load of all code: false")
	}
	for at := mem.Fields; at < mem.StackTop; at++ {
		b := byte(at%253 + 1)
		if w.lay(at, 1, uint32(b)); !m.SetByte(at, b) {
			t.Fatalf("15.1: SetByte(%#x): false", at)
		}
	}
	return m, w
}

// TestExample: the chapter's row.
func TestExample(t *testing.T) {
	m := mem.New()
	if m.SetWord(0, 1) {
		t.Error("15.1: SetWord(0, 1): true")
	}
	if n, ok := m.Word(2); n != 0 || ok {
		t.Errorf("15.1: Word(2): %d, %t", n, ok)
	}
}

// TestPlaces: the chapter's numbers.
func TestPlaces(t *testing.T) {
	if mem.Fields != 0x20000 || mem.StackTop != 0x40000 || mem.StackEnd != 0x3c000 || mem.CodeEnd != 0x20000 {
		t.Errorf("15: %#x, %#x, %#x, %#x", mem.Fields, mem.StackTop, mem.StackEnd, mem.CodeEnd)
	}
	if mem.StackTop != api.MaxMemory {
		t.Errorf("15.1: StackTop %#x, MaxMemory %#x", mem.StackTop, api.MaxMemory)
	}
}

// TestFirst: 15.1, all bytes are 0 at first, and each address is told, or none.
func TestFirst(t *testing.T) {
	m := mem.New()
	if m == nil {
		t.Fatal("15.1: New: nil")
	}
	teller{}.all(t, "at first", m)
}

// TestEach: 15.1, what stands at each address, as a halfword, a word and a byte.
func TestEach(t *testing.T) {
	m, w := filled(t)
	w.all(t, "filled", m)
}

// TestSetEach: 15.1, SetWord and SetByte take just the addresses that they may,
// and turn just the bytes there.
func TestSetEach(t *testing.T) {
	m, w := filled(t)
	try := func(at int) {
		n := uint32(at)*0x9e3779b1 ^ 0x5a5a5a5a
		is := takes(at, 4, mem.CodeEnd, mem.StackTop)
		if is {
			w.lay(at, 4, n)
		}
		if ok := m.SetWord(at, n); ok != is {
			t.Errorf("15.1: SetWord(%#x): %t", at, ok)
		}
		is = takes(at, 1, mem.CodeEnd, mem.StackTop)
		if is && at%3 == 0 {
			w.lay(at, 1, n>>11)
		}
		if at%3 == 0 || !is {
			if ok := m.SetByte(at, byte(n>>11)); ok != is {
				t.Errorf("15.1: SetByte(%#x): %t", at, ok)
			}
		}
	}
	for at := -9; at < mem.StackTop+9 && !t.Failed(); at++ {
		try(at)
	}
	for _, at := range far {
		try(at)
	}
	w.all(t, "set", m)
}

// TestLowestFirst: 15.1, words and halfwords have the lowest byte first.
func TestLowestFirst(t *testing.T) {
	m := mem.New()
	if !m.SetWord(mem.Fields+8, 0xfedcba98) || !m.Load(8, []uint16{0xba98, 0xfedc}) {
		t.Fatal("15.1: SetWord or Load: false")
	}
	for _, from := range []int{mem.Fields + 8, 8} {
		for i, want := range []byte{0x98, 0xba, 0xdc, 0xfe} {
			if b, ok := m.Byte(from + i); b != want || !ok {
				t.Errorf("15.1: Byte(%#x): %#x, %t", from+i, b, ok)
			}
		}
		if n, ok := m.Word(from); n != 0xfedcba98 || !ok {
			t.Errorf("15.1: Word(%#x): %#x, %t", from, n, ok)
		}
	}
	if h, ok := m.Half(10); h != 0xfedc || !ok {
		t.Errorf("15.1: Half(10): %#x, %t", h, ok)
	}
	if !m.SetByte(mem.Fields+9, 1) || !m.SetByte(mem.Fields+11, 0xff) {
		t.Error("15.1: SetByte: false")
	}
	if n, _ := m.Word(mem.Fields + 8); n != 0xffdc0198 {
		t.Errorf("15.1: Word behind SetByte: %#x", n)
	}
}

// TestLoadEdges: 15.1, where Load lays, and where it lays nothing.
func TestLoadEdges(t *testing.T) {
	end := mem.CodeEnd
	lengths := []int{0, 1, 2, 3, 7, end/2 - 1, end / 2, end/2 + 1, mem.StackTop / 2}
	places := []int{-end, -4, -2, -1, 0, 1, 2, 3, 4, 5, end - 14, end - 6, end - 5, end - 4, end - 3, end - 2, end - 1, end, end + 1, end + 2, mem.StackEnd, mem.StackTop - 2, mem.StackTop, mem.StackTop + 2}
	for _, n := range lengths {
		for _, at := range slices.Concat(places, far) {
			loads(t, at, counted(n))
		}
	}
}

// loads holds one Load into a fresh memory against the teller.
func loads(t *testing.T, at int, half []uint16) {
	t.Helper()
	m, w := mem.New(), teller{}
	want := w.load(at, half)
	if got := m.Load(at, half); got != want {
		t.Errorf("15.1: Load(%#x, %d halfwords): %t", at, len(half), got)
	}
	all := make([]byte, mem.StackTop)
	for place, b := range w {
		all[place] = b
	}
	if !bytes.Equal(whole(t, m), all) {
		t.Errorf("15.1: Load(%#x, %d halfwords) laid something else", at, len(half))
	}
}

// TestLoadOver: 15.1, Load over what stands there turns just its own place, and one
// that is refused turns nothing.
func TestLoadOver(t *testing.T) {
	m, w := filled(t)
	for _, l := range []struct {
		at   int
		half []uint16
	}{
		{0, []uint16{0, 0xffff}}, {6, []uint16{7, 8, 9}}, {8, []uint16{1}}, {7, []uint16{3}}, {-2, []uint16{4, 5}},
		{mem.CodeEnd - 2, []uint16{0xabcd}}, {mem.CodeEnd - 2, []uint16{1, 2}}, {mem.CodeEnd - 4, []uint16{1, 2, 3}},
		{mem.CodeEnd, []uint16{6}}, {mem.Fields + 4, []uint16{6}}, {20, nil}, {21, nil}, {22, []uint16{}},
	} {
		want := w.load(l.at, l.half)
		if got := m.Load(l.at, l.half); got != want {
			t.Errorf("15.1: Load(%#x, %v): %t", l.at, l.half, got)
		}
	}
	w.all(t, "loaded over", m)
}

// TestLoadApart: R2, the list that is loaded is not changed, its spare room
// included, and not kept.
func TestLoadApart(t *testing.T) {
	room := []uint16{1, 2, 3, 4, 5, 6}
	m := mem.New()
	if !m.Load(10, room[1:3]) || m.Load(11, room[1:3]) || m.Load(mem.CodeEnd-2, room[1:3]) {
		t.Error("15.1: Load")
	}
	if !slices.Equal(room, []uint16{1, 2, 3, 4, 5, 6}) {
		t.Errorf("R2: Load turned its list: %v", room)
	}
	room[1], room[2] = 70, 71
	want := teller{10: 2, 12: 3}
	want.all(t, "its list turned", m)
}

// TestApart: R7, two memories share nothing.
func TestApart(t *testing.T) {
	one, other := mem.New(), mem.New()
	if !one.SetWord(mem.Fields, 5) || !one.SetByte(mem.StackTop-1, 6) || !one.Load(0, []uint16{7}) {
		t.Error("15.1: a call that may be: false")
	}
	teller{}.all(t, "the other one told", other)
	if n, ok := one.Word(mem.Fields); n != 5 || !ok {
		t.Errorf("15.1: Word: %d, %t", n, ok)
	}
}

// TestDice: 15.1, calls in any order, at any place.
func TestDice(t *testing.T) {
	m, w := mem.New(), teller{}
	seed := uint64(15)
	roll := func(n int) int {
		seed = seed*6364136223846793005 + 1442695040888963407
		return int(seed>>33) % n
	}
	ends := []int{0, 40, mem.CodeEnd, mem.Fields + 64, mem.StackEnd, mem.StackTop}
	for range 60000 {
		at := ends[roll(len(ends))] + roll(48) - 24
		n := uint32(roll(1<<16))<<16 ^ uint32(roll(1<<20))
		ok, want := false, false
		switch roll(4) {
		case 0:
			half := counted(500)[roll(400):][:roll(6)]
			ok, want = m.Load(at, half), w.load(at, half)
		case 1:
			ok, want = m.SetWord(at, n), takes(at, 4, mem.CodeEnd, mem.StackTop)
			if want {
				w.lay(at, 4, n)
			}
		case 2:
			ok, want = m.SetByte(at, byte(n)), takes(at, 1, mem.CodeEnd, mem.StackTop)
			if want {
				w.lay(at, 1, n)
			}
		default:
			w.asks(t, "by dice", m, at)
		}
		if ok != want {
			t.Fatalf("15.1: by dice at %#x: %t", at, ok)
		}
	}
	w.all(t, "behind the dice", m)
}

// TestNone: R1 and R3, a memory that is nil, or was not made, has no address.
func TestNone(t *testing.T) {
	hasNone(t, nil)
	hasNone(t, &mem.Memory{})
}

// hasNone holds that m answers nothing, and takes nothing.
func hasNone(t *testing.T, m *mem.Memory) {
	t.Helper()
	for _, at := range slices.Concat([]int{0, 1, 4, mem.Fields, mem.StackTop}, far) {
		h, isHalf := m.Half(at)
		n, isWord := m.Word(at)
		b, isByte := m.Byte(at)
		if h != 0 || n != 0 || b != 0 || isHalf || isWord || isByte {
			t.Errorf("R1: a memory that is none answers at %#x", at)
		}
		if m.Load(at, nil) || m.Load(at, []uint16{1}) || m.SetWord(at, 1) || m.SetByte(at, 1) {
			t.Errorf("R1: a memory that is none takes something at %#x", at)
		}
	}
}

// TestWays: the bytes stand in one slice, with methods over it.
func TestWays(t *testing.T) {
	files, err := os.ReadDir(".")
	if err != nil {
		t.Fatal(err)
	}
	fields := []string{}
	for _, f := range files {
		if !strings.HasSuffix(f.Name(), ".go") || strings.HasSuffix(f.Name(), "_test.go") {
			continue
		}
		file, err := parser.ParseFile(token.NewFileSet(), f.Name(), nil, 0)
		if err != nil {
			t.Fatal(err)
		}
		ast.Inspect(file, func(n ast.Node) bool {
			if s, is := n.(*ast.TypeSpec); is && s.Name.Name == "Memory" {
				fields = append(fields, types(s)...)
			}
			return true
		})
	}
	if !slices.Equal(fields, []string{"[]byte"}) {
		t.Errorf("Ways: a memory is of %v", fields)
	}
}

// types answers the kinds of a struct's fields, those that are a slice of a named kind.
func types(s *ast.TypeSpec) []string {
	all := []string{}
	st, is := s.Type.(*ast.StructType)
	if !is {
		return all
	}
	for _, f := range st.Fields.List {
		kind := "other"
		if a, is := f.Type.(*ast.ArrayType); is && a.Len == nil {
			if e, is := a.Elt.(*ast.Ident); is {
				kind = "[]" + e.Name
			}
		}
		for range max(1, len(f.Names)) {
			all = append(all, kind)
		}
	}
	return all
}
