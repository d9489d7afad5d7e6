package thumb_test

import (
	"go/ast"
	"go/parser"
	"go/token"
	"os"
	"slices"
	"strings"
	"testing"

	"taciturn/api"
	"taciturn/thumb"
)

// checkLaid holds all that is said of a right instruction against its halfwords,
// whatever stands behind them.
func checkLaid(t *testing.T, i thumb.Ins, want ...uint16) {
	t.Helper()
	if !thumb.Right(i) {
		t.Errorf("14.1: Right(%+v): false", i)
	}
	if got, e := thumb.Encode(i); e != api.OK || !slices.Equal(got, want) {
		t.Errorf("14.1: Encode(%+v): %04x, %d, not %04x", i, got, e, want)
	}
	if got := thumb.Size(i); got != 2*len(want) {
		t.Errorf("14.1: Size(%+v): %d", i, got)
	}
	for _, behind := range [][]uint16{nil, {0}, {0xffff}, {0xf800, 0xde00}} {
		got, n, e := thumb.Decode(append(slices.Clone(want), behind...))
		if e != api.OK || n != len(want) || got != i {
			t.Errorf("14.1: Decode(%04x %04x): %+v, %d, %d, not %+v", want, behind, got, n, e, i)
		}
	}
}

// checkWrong holds all that is said of an instruction that is not right.
func checkWrong(t *testing.T, i thumb.Ins) {
	t.Helper()
	if thumb.Right(i) {
		t.Errorf("14.1: Right(%+v): true", i)
	}
	if got, e := thumb.Encode(i); e != api.ErrArg || len(got) != 0 {
		t.Errorf("14.1: Encode(%+v): %04x, %d", i, got, e)
	}
}

// refused checks that Decode answers want of h, and nothing beside it.
func refused(t *testing.T, want api.Errno, h ...uint16) {
	t.Helper()
	if i, n, e := thumb.Decode(h); e != want || n != 0 || i != (thumb.Ins{}) {
		t.Errorf("14.1: Decode(%04x): %+v, %d, %d, not %d", h, i, n, e, want)
	}
}

// TestNumbers: 14.1, the instructions' numbers are 1 to 45 in the chapter's
// order.
func TestNumbers(t *testing.T) {
	order := []int{thumb.LslI, thumb.LsrI, thumb.AsrI, thumb.AddR, thumb.SubR, thumb.AddI3, thumb.SubI3,
		thumb.MovI, thumb.CmpI, thumb.AddI, thumb.SubI, thumb.AndR, thumb.EorR, thumb.LslR, thumb.LsrR,
		thumb.AsrR, thumb.AdcR, thumb.SbcR, thumb.RorR, thumb.TstR, thumb.NegR, thumb.CmpR, thumb.CmnR,
		thumb.OrrR, thumb.MulR, thumb.BicR, thumb.MvnR, thumb.MovH, thumb.LdrR, thumb.StrR, thumb.LdrI,
		thumb.StrI, thumb.LdrbI, thumb.StrbI, thumb.LdrS, thumb.StrS, thumb.AddSp, thumb.SubSp, thumb.Push,
		thumb.Pop, thumb.BCond, thumb.B, thumb.Bl, thumb.Svc, thumb.Nop}
	for at, op := range order {
		if op != at+1 {
			t.Errorf("14.1: the %d-th is %d", at+1, op)
		}
	}
	if len(order) != 45 {
		t.Errorf("14.1: %d", len(order))
	}
}

// TestExample: the chapter's row.
func TestExample(t *testing.T) {
	checkLaid(t, thumb.Ins{Op: thumb.MovI, D: 1, Imm: 5}, 0x2105)
	checkLaid(t, thumb.Ins{Op: thumb.Svc, Imm: 3}, 0xdf03)
	checkLaid(t, thumb.Ins{Op: thumb.B, Imm: -4}, 0xe7fe)
}

// TestKnown: 14.1, some that ARM's own book has, at the edges of their rows.
func TestKnown(t *testing.T) {
	checkLaid(t, thumb.Ins{Op: thumb.LsrI, D: 3, M: 4, Imm: 32}, 0x0823)
	checkLaid(t, thumb.Ins{Op: thumb.AsrI, D: 3, M: 4, Imm: 32}, 0x1023)
	checkLaid(t, thumb.Ins{Op: thumb.LslI, D: 3, M: 4}, 0x0023)
	checkLaid(t, thumb.Ins{Op: thumb.MvnR, D: 5, M: 6}, 0x43f5)
	checkLaid(t, thumb.Ins{Op: thumb.MovH, D: 14, M: 13}, 0x46ee)
	checkLaid(t, thumb.Ins{Op: thumb.MovH, D: 8, M: 7}, 0x46b8)
	checkLaid(t, thumb.Ins{Op: thumb.LdrR, D: 1, N: 2, M: 3}, 0x58d1)
	checkLaid(t, thumb.Ins{Op: thumb.StrS, D: 7, Imm: 1020}, 0x97ff)
	checkLaid(t, thumb.Ins{Op: thumb.SubSp, Imm: 4}, 0xb081)
	checkLaid(t, thumb.Ins{Op: thumb.Push, Imm: 256 + 255}, 0xb5ff)
	checkLaid(t, thumb.Ins{Op: thumb.Pop, Imm: 256}, 0xbd00)
	checkLaid(t, thumb.Ins{Op: thumb.BCond, Cond: 13, Imm: -256}, 0xdd80)
	checkLaid(t, thumb.Ins{Op: thumb.BCond, Cond: 1, Imm: -4}, 0xd1fe)
	checkLaid(t, thumb.Ins{Op: thumb.Nop}, 0xbf00)
}

// TestEachRight: 14.1, each right instruction of one halfword is right, is laid
// as the chapter's row says, and read back.
func TestEachRight(t *testing.T) {
	for _, r := range rows() {
		right(r, func(i thumb.Ins) { checkLaid(t, i, laid(r, i)) })
	}
}

// TestEachHalfword: 14.1, what stands in each halfword: one instruction, or none.
func TestEachHalfword(t *testing.T) {
	all := map[uint16]thumb.Ins{}
	for _, r := range rows() {
		right(r, func(i thumb.Ins) {
			h := laid(r, i)
			if other, ok := all[h]; ok {
				t.Errorf("14.1: %04x: %+v and %+v", h, i, other)
			}
			all[h] = i
		})
	}
	for n := range 1 << 16 {
		h := uint16(n)
		want, ok := all[h]
		switch {
		case h>>11 == 0b11110:
			refused(t, api.ErrShort, h)
		case ok:
			if got, n, e := thumb.Decode([]uint16{h}); e != api.OK || n != 1 || got != want {
				t.Errorf("14.1: Decode(%04x): %+v, %d, %d, not %+v", h, got, n, e, want)
			}
		default:
			refused(t, api.ErrOp, h)
			refused(t, api.ErrOp, h, 0xf800)
		}
	}
}

// TestFields: 14.1, of each instruction each field in and out of its range; what
// one does not use is 0.
func TestFields(t *testing.T) {
	for _, r := range append(rows(), far()) {
		last := func(all []int) int { return all[len(all)-1] }
		for _, base := range []thumb.Ins{
			{Op: r.op, Imm: r.low},
			{Op: r.op, D: last(registers(r, "D")), N: last(registers(r, "N")), M: last(registers(r, "M")), Imm: r.high, Cond: last(conditions(r))},
		} {
			if !thumb.Right(base) {
				t.Errorf("14.1: Right(%+v)", base)
			}
			for _, n := range wild() {
				checkFields(t, r, base, n)
			}
		}
	}
}

// checkFields holds what is said of base, each of its fields n in its turn,
// against the chapter's row.
func checkFields(t *testing.T, r row, base thumb.Ins, n int) {
	t.Helper()
	turns := [5]thumb.Ins{base, base, base, base, base}
	turns[0].D, turns[1].N, turns[2].M, turns[3].Imm, turns[4].Cond = n, n, n, n, n
	for _, i := range turns {
		switch {
		case !allowed(r, i):
			checkWrong(t, i)
		case i.Op == thumb.Bl:
			words := farWords(i.Imm)
			checkLaid(t, i, words[:]...)
		default:
			checkLaid(t, i, laid(r, i))
		}
	}
}

// TestAllFields: 14.1, no instruction uses all fields.
func TestAllFields(t *testing.T) {
	for op := -1; op <= 47; op++ {
		for _, n := range []int{-8, -1, 1, 2, 4, 7, 8, 13, 14, 15, 16} {
			checkWrong(t, thumb.Ins{Op: op, D: n, N: n, M: n, Imm: n, Cond: n})
		}
	}
}

// TestNoInstruction: 14.1, numbers that are no instruction are not right.
func TestNoInstruction(t *testing.T) {
	for _, op := range wild() {
		if op >= thumb.LslI && op <= thumb.Nop {
			continue
		}
		for _, imm := range []int{0, 1, 2, 4, -4} {
			checkWrong(t, thumb.Ins{Op: op, Imm: imm})
		}
		if got := thumb.Size(thumb.Ins{Op: op}); got != 2 {
			t.Errorf("14.1: Size of %d: %d", op, got)
		}
	}
}

// TestSize: 14.1, 4 of Bl, else 2, right or not.
func TestSize(t *testing.T) {
	for _, imm := range []int{0, 1, 2, -2, 1 << 24, -1 << 40} {
		for op := 0; op <= 46; op++ {
			want := 2
			if op == thumb.Bl {
				want = 4
			}
			if got := thumb.Size(thumb.Ins{Op: op, D: 9, Imm: imm}); got != want {
				t.Errorf("14.1: Size of %d: %d", op, got)
			}
		}
	}
}

// TestHighRegisters: 14.1, MovH's registers are 0 to 15, D not 13, not 15, M not
// 15; neither where it is laid nor where it is read.
func TestHighRegisters(t *testing.T) {
	for d := range 16 {
		for m := range 16 {
			i := thumb.Ins{Op: thumb.MovH, D: d, M: m}
			h := uint16(0x4600 | d>>3<<7 | m<<3 | d&7)
			if d == 13 || d == 15 || m == 15 {
				checkWrong(t, i)
				refused(t, api.ErrOp, h)
			} else {
				checkLaid(t, i, h)
			}
		}
	}
}

// TestNoHalfword: 14.1, halfwords that a row's masks alone would let be.
func TestNoHalfword(t *testing.T) {
	refused(t, api.ErrOp, 0xb400)         // Push of none
	refused(t, api.ErrOp, 0xbc00)         // Pop of none
	refused(t, api.ErrOp, 0xde00)         // BCond with 14
	refused(t, api.ErrOp, 0xdeff, 0xffff) // the same
	refused(t, api.ErrOp, 0xbf01)         // beside Nop
	refused(t, api.ErrOp, 0xe800)         // beside B
	refused(t, api.ErrOp, 0xf800, 0xf800) // a Bl's second one alone
	refused(t, api.ErrOp, 0x4400)         // an add of high registers
	refused(t, api.ErrOp, 0x4770)         // bx
	refused(t, api.ErrOp, 0x4800)         // a load by pc
	refused(t, api.ErrOp, 0x5400)         // a store of bytes by two registers
	refused(t, api.ErrOp, 0x8800)         // a load of a halfword
	refused(t, api.ErrOp, 0xa801)         // an address by sp
	refused(t, api.ErrOp, 0xc907)         // a load of many
	checkLaid(t, thumb.Ins{Op: thumb.Svc}, 0xdf00)
}

// TestWays: the chapter's Ways, the table of masks is made where it is asked, so
// that no variable stands at package level.
func TestWays(t *testing.T) {
	files, err := os.ReadDir(".")
	if err != nil {
		t.Fatal(err)
	}
	table := false
	for _, f := range files {
		if !strings.HasSuffix(f.Name(), ".go") || strings.HasSuffix(f.Name(), "_test.go") {
			continue
		}
		file, err := parser.ParseFile(token.NewFileSet(), f.Name(), nil, 0)
		if err != nil {
			t.Fatal(err)
		}
		for _, d := range file.Decls {
			if g, is := d.(*ast.GenDecl); is && g.Tok == token.VAR {
				t.Errorf("Ways: a variable at package level in %s", f.Name())
			}
			f, is := d.(*ast.FuncDecl)
			table = table || is && f.Name.Name == "rows" && f.Type.Params.NumFields() == 0
		}
	}
	if !table {
		t.Error("Ways: no table of rows that is made where it is asked")
	}
}
