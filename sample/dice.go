package sample

import (
	"math"

	"taciturn/api"
	"taciturn/code"
)

// Dice makes numbers, words and images by a rule: the same ones each time.
type Dice struct {
	state uint64
}

// NewDice answers dice whose row of numbers hangs on start.
func NewDice(start uint64) *Dice {
	return &Dice{state: start}
}

// UpTo answers a number from 0 to n.
func (d *Dice) UpTo(n int) int {
	d.state = d.state*6364136223846793005 + 1442695040888963407
	return int(d.state>>32) % (n + 1)
}

// OneOf answers one of some words.
func (d *Dice) OneOf(words ...string) string {
	return words[d.UpTo(len(words)-1)]
}

// Bytes answers n bytes.
func (d *Dice) Bytes(n int) []byte {
	all := []byte(nil)
	for range n {
		all = append(all, byte(d.UpTo(math.MaxUint8)))
	}
	return all
}

// Kinds answers at most n kinds.
func (d *Dice) Kinds(n int) []int {
	all := []int(nil)
	for range d.UpTo(n) {
		all = append(all, api.PubInt+d.UpTo(api.SecArr-api.PubInt))
	}
	return all
}

// Name answers a name.
func (d *Dice) Name() string {
	s := ""
	for range 1 + d.UpTo(7) {
		s += d.OneOf("a", "z", "0", "9", "-", ".", "\u00e0", "\u00ff")
	}
	return s
}

// Instr answers an instruction that is right.
func (d *Dice) Instr() api.Instr {
	for {
		i := api.Instr{Op: code.Push + d.UpTo(code.Ret-code.Push), A: d.UpTo(12) - 2}
		switch {
		case i.Op == code.New:
			i.B = d.UpTo(6)
		case i.Op == code.Push:
			i.A = d.UpTo(math.MaxUint32) + math.MinInt32
		case code.Operands(i.Op) == 0:
			i.A = 0
		}
		if code.Right(i) {
			return i
		}
	}
}

// Image answers an image that is right; whether its code may run is not asked.
func (d *Dice) Image() api.Image {
	i := api.Image{Name: d.Name(), Fields: d.Kinds(api.MaxFields)}
	for range d.UpTo(api.MaxImports) {
		m := api.Import{Name: d.Name(), Export: d.UpTo(api.MaxExports - 1), Params: d.Kinds(api.MaxParams), Result: d.UpTo(api.SecArr)}
		i.Imports = append(i.Imports, m)
	}
	for n := range 1 + d.UpTo(api.MaxMethods-1) {
		m := api.Method{}
		if n > 0 {
			m.Params, m.Result = d.Kinds(api.MaxParams), d.UpTo(api.SecArr)
		}
		m.Locals = d.Kinds(api.MaxLocals - len(m.Params))
		for range 1 + d.UpTo(api.MaxCode-1) {
			m.Code = append(m.Code, d.Instr())
		}
		i.Methods = append(i.Methods, m)
	}
	for range d.UpTo(api.MaxExports) {
		i.Exports = append(i.Exports, d.UpTo(len(i.Methods)-1))
	}
	return i
}
