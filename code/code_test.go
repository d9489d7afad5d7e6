package code_test

import (
	"bytes"
	"go/ast"
	"go/parser"
	"go/token"
	"math"
	"testing"

	"taciturn/api"
	"taciturn/code"
	"taciturn/octet"
)

// row is what chapter 3 says of an instruction: its number, its word, how many
// operands it uses, in how many bytes A stands, and between what A may be.
type row struct {
	op        int
	name      string
	operands  int
	width     int
	low, high int
}

// rows are the chapter's instructions in its order.
func rows() []row {
	return []row{
		{code.Push, "push", 1, 4, math.MinInt32, math.MaxInt32},
		{code.Load, "load", 1, 1, 0, 9},
		{code.Store, "store", 1, 1, 0, 9},
		{code.Pop, "pop", 0, 0, 0, 0},
		{code.Dup, "dup", 0, 0, 0, 0},
		{code.Add, "add", 0, 0, 0, 0},
		{code.Sub, "sub", 0, 0, 0, 0},
		{code.Mul, "mul", 0, 0, 0, 0},
		{code.And, "and", 0, 0, 0, 0},
		{code.Or, "or", 0, 0, 0, 0},
		{code.Xor, "xor", 0, 0, 0, 0},
		{code.Shl, "shl", 0, 0, 0, 0},
		{code.Shr, "shr", 0, 0, 0, 0},
		{code.Sar, "sar", 0, 0, 0, 0},
		{code.Neg, "neg", 0, 0, 0, 0},
		{code.Not, "not", 0, 0, 0, 0},
		{code.Div, "div", 0, 0, 0, 0},
		{code.Rem, "rem", 0, 0, 0, 0},
		{code.Eq, "eq", 0, 0, 0, 0},
		{code.Lt, "lt", 0, 0, 0, 0},
		{code.Below, "below", 0, 0, 0, 0},
		{code.Pick, "pick", 0, 0, 0, 0},
		{code.Jump, "jump", 1, 2, 0, 119},
		{code.JumpIf, "jumpif", 1, 2, 0, 119},
		{code.Null, "null", 1, 1, 3, 4},
		{code.IsNull, "isnull", 0, 0, 0, 0},
		{code.New, "new", 2, 1, 3, 4},
		{code.Len, "len", 0, 0, 0, 0},
		{code.Get, "get", 0, 0, 0, 0},
		{code.Put, "put", 0, 0, 0, 0},
		{code.Copy, "copy", 0, 0, 0, 0},
		{code.Same, "same", 0, 0, 0, 0},
		{code.GetF, "getf", 1, 1, 0, 7},
		{code.PutF, "putf", 1, 1, 0, 7},
		{code.Buf, "buf", 1, 1, 1, 2},
		{code.Send, "send", 1, 1, 1, 2},
		{code.Call, "call", 1, 1, 0, 7},
		{code.CallX, "callx", 1, 1, 0, 3},
		{code.Ret, "ret", 0, 0, 0, 0},
	}
}

// none are numbers that no instruction has; some have an instruction's lowest
// byte.
func none() []int {
	return []int{0, 40, 41, 255, 256, 257, 256 + code.Ret, 1<<32 + code.Push, -1, -255, -39, math.MaxInt, math.MinInt}
}

// isLife tells whether the chapter lets New have b.
func isLife(b int) bool {
	for _, life := range []int{0, 1, 2, 4, 5, 6} {
		if b == life {
			return true
		}
	}
	return false
}

// operands are numbers about the ends of each operand's range, and some that
// are within once their higher bits are lost.
func operands() []int {
	all := []int{math.MinInt, math.MaxInt, math.MinInt32, math.MinInt32 - 1, math.MinInt32 + 1, math.MaxInt32, math.MaxInt32 + 1, math.MaxInt32 - 1}
	for _, base := range []int{0, 256, 65536, 1 << 32, -256, -65536, -1 << 32} {
		for n := -2; n < 130; n++ {
			all = append(all, base+n)
		}
	}
	return all
}

// byteOf answers the lowest eight bits of n.
func byteOf(n int) byte {
	return byte(n & 255)
}

// bytesOf are the bytes of an instruction, as the chapter tells them.
func bytesOf(r row, a, b int) []byte {
	out := []byte{byteOf(r.op)}
	for k := r.width - 1; k >= 0; k-- {
		out = append(out, byteOf(a>>(8*k)))
	}
	if r.operands == 2 {
		out = append(out, byteOf(b))
	}
	return out
}

// allowed tells what the chapter's Right says of row r with a and b.
func allowed(r row, a, b int) bool {
	if r.operands == 2 {
		return r.low <= a && a <= r.high && isLife(b)
	}
	return r.low <= a && a <= r.high && b == 0
}

// lay answers what Lay lays behind one byte that is there already.
func lay(t *testing.T, i api.Instr) ([]byte, api.Errno) {
	t.Helper()
	w := octet.NewWriter()
	w.U8('<')
	e := code.Lay(w, i)
	laid := w.Bytes()
	if len(laid) == 0 || laid[0] != '<' {
		t.Fatalf("3.2: Lay(%+v): % x", i, laid)
	}
	return laid[1:], e
}

// refused checks that Read answers want of b, and leaves the Reader as it was.
func refused(t *testing.T, b []byte, want api.Errno) {
	t.Helper()
	r := octet.NewReader(b)
	i, e := code.Read(r)
	if e != want || i != (api.Instr{}) {
		t.Errorf("3.2: Read(% x): %+v, %d, not %d", b, i, e, want)
	}
	if r.Lack() || r.Left() != len(b) || !bytes.Equal(r.Raw(len(b)), b) {
		t.Errorf("R3: Read(% x) turned its Reader", b)
	}
}

// TestNumbers: 3.1, 1 to 39 in the chapter's order.
func TestNumbers(t *testing.T) {
	for at, r := range rows() {
		if r.op != at+1 {
			t.Errorf("3.1: %s: %d", r.name, r.op)
		}
	}
	if code.Ret != 39 || len(rows()) != 39 {
		t.Errorf("3.1: ret: %d", code.Ret)
	}
}

// TestName: 3.1, the word in small letters; empty of others.
func TestName(t *testing.T) {
	for _, r := range rows() {
		if got := code.Name(r.op); got != r.name {
			t.Errorf("3.1: Name(%d): %q, not %q", r.op, got, r.name)
		}
	}
	for _, op := range none() {
		if got := code.Name(op); got != "" {
			t.Errorf("3.1: Name(%d): %q", op, got)
		}
	}
}

// TestOp: 3.1, back; 0 of what is no instruction's word.
func TestOp(t *testing.T) {
	for _, r := range rows() {
		if got := code.Op(r.name); got != r.op {
			t.Errorf("3.1: Op(%q): %d, not %d", r.name, got, r.op)
		}
	}
	wrong := []string{"", " ", "Push", "PUSH", "getF", "GetF", "pus", "ush", "pushh", "push ", " push",
		"push load", "load store", "callx ret", "none", "call x", "ret\n", "ret\x00", "\xff", "ret\xff",
		"r\u00e9t", "39", "1", "\u017fub"}
	for _, name := range wrong {
		if got := code.Op(name); got != 0 {
			t.Errorf("3.1: Op(%q): %d", name, got)
		}
	}
}

// TestOperands: 3.1, how many of A and B are used; none of what is none.
func TestOperands(t *testing.T) {
	for _, r := range rows() {
		if got := code.Operands(r.op); got != r.operands {
			t.Errorf("3.1: Operands(%s): %d, not %d", r.name, got, r.operands)
		}
	}
	for _, op := range none() {
		if got := code.Operands(op); got != 0 {
			t.Errorf("3.1: Operands(%d): %d", op, got)
		}
	}
}

// TestExample: 3.2, the chapter's row.
func TestExample(t *testing.T) {
	want := []byte{1, 255, 255, 255, 255}
	push := api.Instr{Op: code.Push, A: -1}
	if got, e := lay(t, push); e != api.OK || !bytes.Equal(got, want) {
		t.Errorf("3.2: % x, %d", got, e)
	}
	if got, e := code.Read(octet.NewReader(want)); e != api.OK || got != push {
		t.Errorf("3.2: %+v, %d", got, e)
	}
}

// TestRightAndLay: 3.2, what is right is laid as its bytes, and read back from
// them; of what is not right nothing is laid.
func TestRightAndLay(t *testing.T) {
	for _, r := range rows() {
		for _, a := range operands() {
			for b := -2; b < 10; b++ {
				i := api.Instr{Op: r.op, A: a, B: b}
				if got := code.Right(i); got != allowed(r, a, b) {
					t.Errorf("3.2: Right(%s %d %d): %t", r.name, a, b, got)
				}
				checkLaid(t, i, bytesOf(r, a, b), allowed(r, a, b))
			}
		}
	}
}

// checkLaid holds what Lay does of i against the bytes it has where it is right.
func checkLaid(t *testing.T, i api.Instr, want []byte, right bool) {
	t.Helper()
	got, e := lay(t, i)
	if !right {
		if e != api.ErrArg || len(got) != 0 {
			t.Errorf("3.2: Lay(%+v): % x, %d", i, got, e)
		}
		return
	}
	if e != api.OK || !bytes.Equal(got, want) {
		t.Errorf("3.2: Lay(%+v): % x, %d, not % x", i, got, e, want)
	}
	r := octet.NewReader(append(got, "behind"...))
	back, e := code.Read(r)
	if e != api.OK || back != i || r.Lack() || string(r.Raw(r.Left())) != "behind" {
		t.Errorf("3.2: Read(% x): %+v, %d", want, back, e)
	}
}

// TestNoInstruction: 3.2, numbers that are none are not right, nor laid.
func TestNoInstruction(t *testing.T) {
	for _, op := range none() {
		for _, a := range []int{0, 1, 3} {
			i := api.Instr{Op: op, A: a}
			if code.Right(i) {
				t.Errorf("3.2: Right(%+v)", i)
			}
			checkLaid(t, i, nil, false)
		}
	}
}

// TestFarLife: 3.2, a B of New that is within once its higher bits are lost.
func TestFarLife(t *testing.T) {
	for _, b := range []int{3, 7, 8, -1, 10, 256, 260, 1 << 32, -4, -252, math.MaxInt, math.MinInt} {
		i := api.Instr{Op: code.New, A: api.SecArr, B: b}
		if code.Right(i) {
			t.Errorf("3.2: Right(%+v)", i)
		}
		checkLaid(t, i, nil, false)
	}
}

// TestNil: 3.2 and R1, a nil Writer or Reader is an argument that may not be.
func TestNil(t *testing.T) {
	for _, i := range []api.Instr{{Op: code.Ret}, {Op: code.Push, A: 7}, {}} {
		if e := code.Lay(nil, i); e != api.ErrArg {
			t.Errorf("3.2: Lay(nil, %+v): %d", i, e)
		}
	}
	if i, e := code.Read(nil); e != api.ErrArg || i != (api.Instr{}) {
		t.Errorf("R1: Read(nil): %+v, %d", i, e)
	}
}

// TestReadShort: 3.2, what ends too early is short, whatever it begins with.
func TestReadShort(t *testing.T) {
	refused(t, nil, api.ErrShort)
	for _, r := range rows() {
		for _, filler := range []byte{0, 3, 255} {
			whole := append([]byte{byteOf(r.op)}, bytes.Repeat([]byte{filler}, len(bytesOf(r, 0, 0))-1)...)
			for n := range whole {
				refused(t, whole[:n], api.ErrShort)
			}
		}
	}
}

// TestReadOp: 3.2, a first byte that is none; also where nothing is behind it.
func TestReadOp(t *testing.T) {
	for n := range 256 {
		if n >= code.Push && n <= code.Ret {
			continue
		}
		for _, behind := range []string{"", "\x00", "\x01\x02\x03\x04\x05\x06"} {
			refused(t, append([]byte{byteOf(n)}, behind...), api.ErrOp)
		}
	}
}

// TestReadRange: 3.2, of each instruction with bytes behind it, each first
// operand; those that are not right are out of range.
func TestReadRange(t *testing.T) {
	for _, r := range rows() {
		if r.width != 1 && r.width != 2 {
			continue
		}
		for a := range 1 << (8 * r.width) {
			checkRead(t, r, a, 0)
		}
	}
	for a := range 256 {
		for b := range 256 {
			checkRead(t, rows()[code.New-1], a, b)
		}
	}
}

// checkRead holds what Read says of r's bytes with a and b against the chapter.
func checkRead(t *testing.T, r row, a, b int) {
	t.Helper()
	laid := bytesOf(r, a, b)
	if !allowed(r, a, b) {
		refused(t, laid, api.ErrRange)
		return
	}
	got, e := code.Read(octet.NewReader(laid))
	if want := (api.Instr{Op: r.op, A: a, B: b}); e != api.OK || got != want {
		t.Errorf("3.2: Read(% x): %+v, %d", laid, got, e)
	}
}

// TestReadLacking: 3.2, a Reader that lacks already has nothing more.
func TestReadLacking(t *testing.T) {
	r := octet.NewReader([]byte{code.Ret})
	r.U16()
	if i, e := code.Read(r); e != api.ErrShort || i != (api.Instr{}) || !r.Lack() {
		t.Errorf("3.2: %+v, %d", i, e)
	}
}

// TestSeveral: 3.2, instructions stand one behind the other; what stops the
// reading is still there to be told.
func TestSeveral(t *testing.T) {
	all := []api.Instr{{Op: code.Push, A: math.MinInt32}, {Op: code.Jump, A: 119}, {Op: code.New, A: 4, B: 6}, {Op: code.Get}, {Op: code.Buf, A: 2}, {Op: code.Ret}}
	w := octet.NewWriter()
	for _, i := range all {
		if e := code.Lay(w, i); e != api.OK {
			t.Errorf("3.2: Lay(%+v): %d", i, e)
		}
	}
	w.U8(code.Load)
	r := octet.NewReader(w.Bytes())
	for _, want := range all {
		if got, e := code.Read(r); e != api.OK || got != want {
			t.Errorf("3.2: %+v, %d, not %+v", got, e, want)
		}
	}
	for range 2 {
		if _, e := code.Read(r); e != api.ErrShort || r.Left() != 1 || r.Lack() {
			t.Errorf("3.2: %d, %d left", e, r.Left())
		}
	}
}

// TestRunes: the chapter's Ways, words are gone through rune by rune: a range
// over the text of all names, with a value.
func TestRunes(t *testing.T) {
	file, err := parser.ParseFile(token.NewFileSet(), "code.go", nil, 0)
	if err != nil {
		t.Fatal(err)
	}
	found := false
	ast.Inspect(file, func(node ast.Node) bool {
		loop, is := node.(*ast.RangeStmt)
		if is && loop.Value != nil {
			over, isName := loop.X.(*ast.Ident)
			found = found || isName && over.Name == "names"
		}
		return true
	})
	if !found {
		t.Error("Ways: no range over the names")
	}
}
