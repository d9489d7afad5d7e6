package word_test

import (
	"bytes"
	"go/ast"
	"go/parser"
	"go/token"
	"math"
	"math/rand"
	"testing"

	"taciturn/word"
)

const (
	least    = math.MinInt32
	greatest = math.MaxInt32
)

// edges are numbers about which something turns: 0, the ends, each power of
// two and its neighbours, with both signs.
func edges() []int32 {
	all := []int32{0, 0x12345678, -0x12345678, 0x55555555, -0x55555556}
	for k := range 32 {
		p := int32(uint32(1) << k)
		all = append(all, p-1, p, p+1, -p-1, -p, -p+1)
	}
	return all
}

// pairs hands each pair of edges, and some that follow no rule, to check.
func pairs(check func(a, b int32)) {
	all := edges()
	for _, a := range all {
		for _, b := range all {
			check(a, b)
		}
	}
	source := rand.New(rand.NewSource(2))
	for range 20000 {
		check(int32(source.Uint32()), int32(source.Uint32()))
	}
}

// wrapped is n modulo 2^32, as two's complement, told by counting.
func wrapped(n int64) int32 {
	n %= 1 << 32
	if n < least {
		n += 1 << 32
	}
	if n > greatest {
		n -= 1 << 32
	}
	return int32(n)
}

// bit is 1 or 0.
func bit(holds bool) int32 {
	if holds {
		return 1
	}
	return 0
}

// bitwise makes a number of 32 bits, each by what rule says of two bits.
func bitwise(a, b int32, rule func(x, y bool) bool) int32 {
	n := int32(0)
	for k := range 32 {
		n |= bit(rule(a&(1<<k) != 0, b&(1<<k) != 0)) << k
	}
	return n
}

// shifted moves each bit by as many places as b's five lowest bits tell; what
// comes in is brought.
func shifted(a, b int32, up, brought bool) int32 {
	by := int(b & 31)
	if up {
		by = -by
	}
	n := int32(0)
	for k := range 32 {
		from := k + by
		has := brought
		if from >= 0 && from < 32 {
			has = a&(1<<from) != 0
		}
		n |= bit(has) << k
	}
	return n
}

// is holds got against want.
func is(t *testing.T, name string, a, b, got, want int32) {
	t.Helper()
	if got != want {
		t.Errorf("2.1: %s(%d, %d): %d, not %d", name, a, b, got, want)
	}
}

// TestExamples: 2.1, the chapter's row.
func TestExamples(t *testing.T) {
	is(t, "Shl", 1, 33, word.Shl(1, 33), 2)
	is(t, "Sar", -8, 1, word.Sar(-8, 1), -4)
	is(t, "Below", -1, 1, word.Below(-1, 1), 0)
	is(t, "Pick 7", 1, 2, word.Pick(7, 1, 2), 1)
}

// TestSums: 2.1, sums, differences and products wrap round.
func TestSums(t *testing.T) {
	pairs(func(a, b int32) {
		is(t, "Add", a, b, word.Add(a, b), wrapped(int64(a)+int64(b)))
		is(t, "Sub", a, b, word.Sub(a, b), wrapped(int64(a)-int64(b)))
		is(t, "Mul", a, b, word.Mul(a, b), wrapped(int64(a)*int64(b)))
		is(t, "Neg", a, 0, word.Neg(a), wrapped(-int64(a)))
	})
	is(t, "Add", greatest, 1, word.Add(greatest, 1), least)
	is(t, "Add", least, -1, word.Add(least, -1), greatest)
	is(t, "Sub", least, 1, word.Sub(least, 1), greatest)
	is(t, "Sub", 0, least, word.Sub(0, least), least)
	is(t, "Mul", 1<<16, 1<<16, word.Mul(1<<16, 1<<16), 0)
	is(t, "Mul", least, -1, word.Mul(least, -1), least)
	is(t, "Mul", greatest, greatest, word.Mul(greatest, greatest), 1)
	is(t, "Neg", least, 0, word.Neg(least), least)
	is(t, "Neg", 0, 0, word.Neg(0), 0)
}

// TestBits: 2.1, And, Or, Xor and Not go bit by bit.
func TestBits(t *testing.T) {
	pairs(func(a, b int32) {
		is(t, "And", a, b, word.And(a, b), bitwise(a, b, func(x, y bool) bool { return x && y }))
		is(t, "Or", a, b, word.Or(a, b), bitwise(a, b, func(x, y bool) bool { return x || y }))
		is(t, "Xor", a, b, word.Xor(a, b), bitwise(a, b, func(x, y bool) bool { return x != y }))
		is(t, "Not", a, 0, word.Not(a), bitwise(a, 0, func(x, _ bool) bool { return !x }))
	})
	is(t, "Not", 0, 0, word.Not(0), -1)
	is(t, "Not", least, 0, word.Not(least), greatest)
}

// TestShifts: 2.1, by the five lowest bits of b; Shr brings in 0s, Sar the sign.
func TestShifts(t *testing.T) {
	pairs(func(a, b int32) {
		is(t, "Shl", a, b, word.Shl(a, b), shifted(a, b, true, false))
		is(t, "Shr", a, b, word.Shr(a, b), shifted(a, b, false, false))
		is(t, "Sar", a, b, word.Sar(a, b), shifted(a, b, false, a < 0))
	})
	for _, b := range []int32{0, 32, 64, -32, least} {
		is(t, "Shl", -5, b, word.Shl(-5, b), -5)
		is(t, "Shr", -5, b, word.Shr(-5, b), -5)
		is(t, "Sar", -5, b, word.Sar(-5, b), -5)
	}
	for _, b := range []int32{31, 63, -1, greatest} {
		is(t, "Shl", 3, b, word.Shl(3, b), least)
		is(t, "Shr", -5, b, word.Shr(-5, b), 1)
		is(t, "Sar", -5, b, word.Sar(-5, b), -1)
		is(t, "Sar", greatest, b, word.Sar(greatest, b), 0)
	}
}

// TestDivision: 2.1, Div and Rem go toward 0; there is neither by 0.
func TestDivision(t *testing.T) {
	pairs(func(a, b int32) {
		q, whole := word.Div(a, b)
		r, rest := word.Rem(a, b)
		if whole != (b != 0) || rest != (b != 0) {
			t.Errorf("2.1: Div, Rem(%d, %d): %t, %t", a, b, whole, rest)
		}
		if b == 0 {
			is(t, "Div", a, b, q, 0)
			is(t, "Rem", a, b, r, 0)
			return
		}
		toward := float64(a) / float64(b)
		is(t, "Div", a, b, q, wrapped(int64(math.Trunc(toward))))
		is(t, "Rem", a, b, r, wrapped(int64(a)-int64(math.Trunc(toward))*int64(b)))
	})
	rows := []struct{ a, b, q, r int32 }{
		{7, 2, 3, 1},
		{-7, 2, -3, -1},
		{7, -2, -3, 1},
		{-7, -2, 3, -1},
		{1, 2, 0, 1},
		{-1, 2, 0, -1},
		{0, 5, 0, 0},
		{least, -1, least, 0},
		{least, 1, least, 0},
		{least, least, 1, 0},
		{greatest, least, 0, greatest},
		{least, greatest, -1, -1},
	}
	for _, row := range rows {
		q, _ := word.Div(row.a, row.b)
		r, _ := word.Rem(row.a, row.b)
		is(t, "Div", row.a, row.b, q, row.q)
		is(t, "Rem", row.a, row.b, r, row.r)
	}
}

// TestOrder: 2.1, Eq, Lt with signs, Below without: 1 or 0.
func TestOrder(t *testing.T) {
	pairs(func(a, b int32) {
		is(t, "Eq", a, b, word.Eq(a, b), bit(a == b))
		is(t, "Eq", a, a, word.Eq(a, a), 1)
		is(t, "Lt", a, b, word.Lt(a, b), bit(a < b))
		is(t, "Lt", a, a, word.Lt(a, a), 0)
		is(t, "Below", a, b, word.Below(a, b), bit(uint32(a) < uint32(b)))
		is(t, "Below", a, a, word.Below(a, a), 0)
	})
	rows := []struct{ a, b, lt, below int32 }{
		{0, 1, 1, 1},
		{-1, 0, 1, 0},
		{0, -1, 0, 1},
		{least, greatest, 1, 0},
		{greatest, least, 0, 1},
		{least, -1, 1, 1},
		{-1, least, 0, 0},
	}
	for _, row := range rows {
		is(t, "Lt", row.a, row.b, word.Lt(row.a, row.b), row.lt)
		is(t, "Below", row.a, row.b, word.Below(row.a, row.b), row.below)
	}
}

// TestPick: 2.1, a for each c that is not 0, b for 0 alone.
func TestPick(t *testing.T) {
	pairs(func(a, b int32) {
		is(t, "Pick 0", a, b, word.Pick(0, a, b), b)
		for _, c := range []int32{1, -1, 2, 256, 1 << 30, least, greatest} {
			is(t, "Pick of one", a, b, word.Pick(c, a, b), a)
		}
	})
	for _, c := range edges() {
		want := []int32{-3, 5}[bit(c != 0)]
		is(t, "Pick of its c", c, 0, word.Pick(c, 5, -3), want)
	}
}

// TestSameBytes: 2.1, as long as one another, and alike.
func TestSameBytes(t *testing.T) {
	rows := []struct {
		a, b []byte
		want int32
	}{
		{nil, nil, 1},
		{nil, []byte{}, 1},
		{[]byte{}, nil, 1},
		{nil, []byte{0}, 0},
		{[]byte{0}, nil, 0},
		{[]byte{0}, []byte{0}, 1},
		{[]byte{0}, []byte{0, 0}, 0},
		{[]byte{1, 2, 3}, []byte{1, 2, 3}, 1},
		{[]byte{1, 2, 3}, []byte{1, 2}, 0},
		{[]byte{1, 2}, []byte{1, 2, 3}, 0},
		{[]byte{1, 2, 3}, []byte{3, 2, 1}, 0},
		{[]byte{1, 1}, []byte{0, 0}, 0},
		{[]byte{3}, []byte{2, 0}, 0},
		{[]byte{128}, []byte{0}, 0},
		{[]byte{255}, []byte{0}, 0},
		{make([]byte, 256), nil, 0},
		{nil, make([]byte, 65536), 0},
	}
	for i, row := range rows {
		is(t, "SameBytes", int32(i), 0, word.SameBytes(row.a, row.b), row.want)
		is(t, "SameBytes", int32(i), 1, word.SameBytes(row.b, row.a), row.want)
	}
}

// TestSameBytesEachBit: 2.1, one bit that differs, wherever it stands, tells.
func TestSameBytesEachBit(t *testing.T) {
	for _, n := range []int{1, 2, 63, 64, 300} {
		a := make([]byte, n)
		for i := range a {
			a[i] = byte(7 * i)
		}
		b := bytes.Clone(a)
		is(t, "SameBytes", int32(n), 0, word.SameBytes(a, b), 1)
		is(t, "SameBytes", int32(n), 1, word.SameBytes(a, a), 1)
		for i := range b {
			for k := range 8 {
				b[i] ^= 1 << k
				is(t, "SameBytes", int32(i), int32(k), word.SameBytes(a, b), 0)
				b[i] ^= 1 << k
			}
		}
	}
}

// TestSameBytesMemory: R2, spare room is not looked at, and nothing is changed.
func TestSameBytesMemory(t *testing.T) {
	one, other := []byte{9, 1, 2, 3, 4}, []byte{8, 1, 2, 5, 6}
	is(t, "SameBytes", 1, 3, word.SameBytes(one[1:3], other[1:3]), 1)
	is(t, "SameBytes", 1, 4, word.SameBytes(one[1:3], one[1:4]), 0)
	if !bytes.Equal(one, []byte{9, 1, 2, 3, 4}) || !bytes.Equal(other, []byte{8, 1, 2, 5, 6}) {
		t.Errorf("R2: % x, % x", one, other)
	}
}

// branch tells what of node chooses a way by a value.
func branch(node ast.Node) string {
	switch n := node.(type) {
	case *ast.IfStmt:
		return "if"
	case *ast.ForStmt:
		return "for"
	case *ast.SwitchStmt, *ast.TypeSwitchStmt, *ast.SelectStmt:
		return "switch"
	case *ast.BranchStmt:
		return n.Tok.String()
	case *ast.FuncLit:
		return "func"
	case *ast.BinaryExpr:
		switch n.Op {
		case token.LAND, token.LOR, token.EQL, token.NEQ, token.LSS, token.LEQ, token.GTR, token.GEQ:
			return n.Op.String()
		}
	}
	return ""
}

// TestNoBranch: the chapter's Ways, none but Div and Rem branches on a number:
// nothing that chooses stands in the source, but the range over bytes.
func TestNoBranch(t *testing.T) {
	file, err := parser.ParseFile(token.NewFileSet(), "word.go", nil, 0)
	if err != nil {
		t.Fatal(err)
	}
	ranges := 0
	for _, d := range file.Decls {
		f, isFunc := d.(*ast.FuncDecl)
		if !isFunc || f.Name.Name == "Div" || f.Name.Name == "Rem" {
			continue
		}
		ast.Inspect(f, func(node ast.Node) bool {
			if what := branch(node); what != "" {
				t.Errorf("Ways: %s has %s", f.Name.Name, what)
			}
			if _, is := node.(*ast.RangeStmt); is {
				ranges++
				if f.Name.Name != "SameBytes" {
					t.Errorf("Ways: %s has a range", f.Name.Name)
				}
			}
			return true
		})
	}
	if ranges != 1 {
		t.Errorf("Ways: %d ranges", ranges)
	}
}
