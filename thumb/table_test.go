package thumb_test

import (
	"math"
	"strconv"
	"strings"
	"testing"

	"taciturn/thumb"
)

// row is what chapter 14 says of an instruction with one halfword: what it uses,
// of Imm the least, the most and the step, and the halfword as it stands in the
// chapter (H: D's fourth bit).
type row struct {
	op              int
	uses            string
	low, high, step int
	halfword        string
}

// rows are the chapter's rows, each instruction by itself. Of AndR to MvnR, see
// twoRegisters.
func rows() []row {
	return append(twoRegisters(), []row{
		{thumb.LslI, "DM", 0, 31, 1, "00000 iiiii mmm ddd"},
		{thumb.LsrI, "DM", 1, 32, 1, "00001 iiiii mmm ddd"},
		{thumb.AsrI, "DM", 1, 32, 1, "00010 iiiii mmm ddd"},
		{thumb.AddR, "DNM", 0, 0, 1, "0001100 mmm nnn ddd"},
		{thumb.SubR, "DNM", 0, 0, 1, "0001101 mmm nnn ddd"},
		{thumb.AddI3, "DN", 0, 7, 1, "0001110 iii nnn ddd"},
		{thumb.SubI3, "DN", 0, 7, 1, "0001111 iii nnn ddd"},
		{thumb.MovI, "D", 0, 255, 1, "00100 ddd iiiiiiii"},
		{thumb.CmpI, "D", 0, 255, 1, "00101 ddd iiiiiiii"},
		{thumb.AddI, "D", 0, 255, 1, "00110 ddd iiiiiiii"},
		{thumb.SubI, "D", 0, 255, 1, "00111 ddd iiiiiiii"},
		{thumb.MovH, "DM", 0, 0, 1, "01000110 H mmmm ddd"},
		{thumb.StrR, "DNM", 0, 0, 1, "0101000 mmm nnn ddd"},
		{thumb.LdrR, "DNM", 0, 0, 1, "0101100 mmm nnn ddd"},
		{thumb.StrI, "DN", 0, 124, 4, "01100 iiiii nnn ddd"},
		{thumb.LdrI, "DN", 0, 124, 4, "01101 iiiii nnn ddd"},
		{thumb.StrbI, "DN", 0, 31, 1, "01110 iiiii nnn ddd"},
		{thumb.LdrbI, "DN", 0, 31, 1, "01111 iiiii nnn ddd"},
		{thumb.StrS, "D", 0, 1020, 4, "10010 ddd iiiiiiii"},
		{thumb.LdrS, "D", 0, 1020, 4, "10011 ddd iiiiiiii"},
		{thumb.AddSp, "", 0, 508, 4, "101100000 iiiiiii"},
		{thumb.SubSp, "", 0, 508, 4, "101100001 iiiiiii"},
		{thumb.Push, "", 1, 511, 1, "1011010 iiiiiiiii"},
		{thumb.Pop, "", 1, 511, 1, "1011110 iiiiiiiii"},
		{thumb.BCond, "C", -256, 254, 2, "1101 cccc iiiiiiii"},
		{thumb.B, "", -2048, 2046, 2, "11100 iiiiiiiiiii"},
		{thumb.Svc, "", 0, 255, 1, "11011111 iiiiiiii"},
		{thumb.Nop, "", 0, 0, 1, "1011111100000000"},
	}...)
}

// twoRegisters are AndR to MvnR, whose p is 0 to 15 in the chapter's order.
func twoRegisters() []row {
	all := []row{}
	for _, r := range []struct {
		op int
		p  string
	}{
		{thumb.AndR, "0000"}, {thumb.EorR, "0001"}, {thumb.LslR, "0010"}, {thumb.LsrR, "0011"},
		{thumb.AsrR, "0100"}, {thumb.AdcR, "0101"}, {thumb.SbcR, "0110"}, {thumb.RorR, "0111"},
		{thumb.TstR, "1000"}, {thumb.NegR, "1001"}, {thumb.CmpR, "1010"}, {thumb.CmnR, "1011"},
		{thumb.OrrR, "1100"}, {thumb.MulR, "1101"}, {thumb.BicR, "1110"}, {thumb.MvnR, "1111"},
	} {
		all = append(all, row{r.op, "DM", 0, 0, 1, "010000 " + r.p + " mmm ddd"})
	}
	return all
}

// far is Bl's row but for its halfwords: see farWords.
func far() row {
	return row{thumb.Bl, "", -16777216, 16777214, 2, ""}
}

// registers are those that an instruction may name; what it does not use is 0.
func registers(r row, name string) []int {
	switch {
	case !strings.Contains(r.uses, name):
		return []int{0}
	case r.op == thumb.MovH && name == "D":
		return []int{0, 1, 2, 3, 4, 5, 6, 7, 8, 9, 10, 11, 12, 14}
	case r.op == thumb.MovH && name == "M":
		return []int{0, 1, 2, 3, 4, 5, 6, 7, 8, 9, 10, 11, 12, 13, 14}
	}
	return []int{0, 1, 2, 3, 4, 5, 6, 7}
}

// conditions are those that an instruction may have.
func conditions(r row) []int {
	if r.uses == "C" {
		return []int{0, 1, 2, 3, 4, 5, 6, 7, 8, 9, 10, 11, 12, 13}
	}
	return []int{0}
}

// isOne tells whether n is one of all.
func isOne(n int, all []int) bool {
	for _, one := range all {
		if one == n {
			return true
		}
	}
	return false
}

// allowed tells what the chapter's Right says of i, an instruction of row r.
func allowed(r row, i thumb.Ins) bool {
	return r.low <= i.Imm && i.Imm <= r.high && i.Imm%r.step == 0 &&
		isOne(i.D, registers(r, "D")) && isOne(i.N, registers(r, "N")) &&
		isOne(i.M, registers(r, "M")) && isOne(i.Cond, conditions(r))
}

// right yields every right instruction of a row.
func right(r row, yield func(i thumb.Ins)) {
	for _, d := range registers(r, "D") {
		for _, n := range registers(r, "N") {
			for _, m := range registers(r, "M") {
				for _, cond := range conditions(r) {
					for imm := r.low; imm <= r.high; imm += r.step {
						yield(thumb.Ins{Op: r.op, D: d, N: n, M: m, Imm: imm, Cond: cond})
					}
				}
			}
		}
	}
}

// laid answers the halfword of i, a right one of row r: each letter's bits are
// the lowest of what it stands for, the last one ahead as one goes to the left.
func laid(r row, i thumb.Ins) uint16 {
	left := map[rune]int{'d': i.D, 'n': i.N, 'm': i.M, 'c': i.Cond, 'H': i.D >> 3, 'i': i.Imm / r.step}
	word := uint16(0)
	letters := []rune(strings.ReplaceAll(r.halfword, " ", ""))
	for at := range 16 {
		letter := letters[15-at]
		bit := 0
		if letter == '1' {
			bit = 1
		} else if letter != '0' {
			bit = left[letter] & 1
			left[letter] >>= 1
		}
		word |= uint16(bit) << at
	}
	return word
}

// farWords answers the halfwords of a Bl, by the digits of its number.
func farWords(imm int) [2]uint16 {
	digits := ""
	for place := 24; place >= 0; place-- {
		digits += strconv.Itoa(imm >> place & 1)
	}
	unlike := func(digit byte) string {
		if digit == digits[0] {
			return "1"
		}
		return "0"
	}
	j, k := unlike(digits[1]), unlike(digits[2])
	return [2]uint16{
		number("11110" + digits[:1] + digits[3:13]),
		number("11" + j + "1" + k + digits[13:24]),
	}
}

// number answers what sixteen digits say.
func number(digits string) uint16 {
	n, err := strconv.ParseUint(digits, 2, 16)
	if err != nil || len(digits) != 16 {
		panic(digits)
	}
	return uint16(n)
}

// wild are numbers about the ends of each range, and some that are within once
// their higher bits are lost.
func wild() []int {
	all := []int{math.MinInt, math.MinInt + 1, math.MaxInt, math.MaxInt - 1, math.MinInt32, math.MaxInt32}
	for n := -270; n <= 270; n++ {
		all = append(all, n)
	}
	for shift := 9; shift < 63; shift++ {
		for n := -4; n <= 4; n++ {
			all = append(all, 1<<shift+n, -1<<shift+n)
		}
	}
	return append(all, 496, 504, 508, 510, 1016, 1018, 1019, 1020, 1021, 1<<32+8, -1<<32+4, 1<<32+32)
}

// TestTable: the table of the tests has each instruction once, and sixteen
// digits for each halfword.
func TestTable(t *testing.T) {
	seen := map[int]int{}
	for _, r := range rows() {
		seen[r.op]++
		if n := len(strings.ReplaceAll(r.halfword, " ", "")); n != 16 {
			t.Errorf("14.1: %d: %d digits", r.op, n)
		}
	}
	for op := thumb.LslI; op <= thumb.Nop; op++ {
		if seen[op] != 1 && op != thumb.Bl {
			t.Errorf("14.1: %d: %d rows", op, seen[op])
		}
	}
}
