// Package sample: images that the tests of several packages share, each made anew
// where it is asked for. No package of the program stands on it.
package sample

import (
	"math"
	"slices"
	"strings"

	"taciturn/api"
	"taciturn/code"
	"taciturn/image"
)

// room is what is laid into a list to see who else has its memory: no list has it
// of its own.
const room = 77

// Least answers the smallest image: a name of one byte, a method of one
// instruction.
func Least() api.Image {
	return api.Image{Name: "a", Methods: []api.Method{{Code: []api.Instr{{Op: code.Ret}}}}}
}

// Empty answers Least with empty lists where that has nil ones.
func Empty() api.Image {
	i := Least()
	i.Fields, i.Imports, i.Exports = []int{}, []api.Import{}, []int{}
	i.Methods[0].Params, i.Methods[0].Locals = []int{}, []int{}
	return i
}

// Some answers one that has some of each part, each number another one where
// that may be.
func Some() api.Image {
	return api.Image{
		Name:   "pin-1.\u00e9",
		Fields: []int{api.SecInt, api.PubArr},
		Imports: []api.Import{
			{Name: "log", Export: 3, Params: []int{api.PubInt, api.SecArr}, Result: api.SecInt},
			{Name: "pin-1.\u00e9"},
		},
		Methods: []api.Method{
			{Locals: []int{api.SecArr, api.PubInt}, Code: []api.Instr{{Op: code.Push, A: -5}, {Op: code.JumpIf, A: 2}, {Op: code.Ret}}},
			{Params: []int{api.SecInt}, Result: api.PubArr, Code: []api.Instr{{Op: code.New, A: 3, B: 6}, {Op: code.Ret}}},
		},
		Exports: []int{1, 0, 1},
	}
}

// Most answers one that has as much of each part as there may be.
func Most() api.Image {
	kinds := []int{4, 3, 2, 1, 4, 3, 2, 1, 4, 3}
	i := api.Image{Name: strings.Repeat("\u00ff", 8), Fields: slices.Clone(kinds[:8]), Exports: []int{7, 7, 0, 6}}
	for n := range api.MaxImports {
		i.Imports = append(i.Imports, api.Import{Name: strings.Repeat("z", 16), Export: 3 - n, Params: slices.Clone(kinds[:4]), Result: n + 1})
	}
	for n := range api.MaxMethods {
		m := api.Method{Code: slices.Repeat([]api.Instr{{Op: code.Push, A: math.MinInt32 + n}}, api.MaxCode)}
		if n > 0 {
			m.Params, m.Result = slices.Clone(kinds[:4]), 4
		}
		m.Locals = slices.Clone(kinds[len(m.Params):])
		i.Methods = append(i.Methods, m)
	}
	return i
}

// Roomy answers Some in lists with spare room, and a call that tells whether that
// room, and what stands ahead of it, is as it was.
func Roomy() (api.Image, func() bool) {
	i := Some()
	numbers := []*[]int{&i.Fields, &i.Exports, &i.Imports[0].Params, &i.Methods[0].Locals, &i.Methods[1].Params}
	for _, list := range numbers {
		*list = append(*list, room)[:len(*list)]
	}
	i.Imports = append(i.Imports, api.Import{Name: "room"})[:2]
	i.Methods = append(i.Methods, api.Method{Result: room})[:2]
	i.Methods[0].Code = append(i.Methods[0].Code, api.Instr{Op: room})[:3]
	return i, func() bool {
		whole := image.Same(i, Some())
		for _, list := range numbers {
			whole = whole && (*list)[:len(*list)+1][len(*list)] == room
		}
		return whole && i.Imports[:3][2].Name == "room" && i.Methods[:3][2].Result == room && i.Methods[0].Code[:4][3].Op == room
	}
}

// Spoil fills all lists of i, and their spare room, with what no list has.
func Spoil(i api.Image) {
	for _, list := range numbersOf(i) {
		fill(list, room)
	}
	for _, list := range codesOf(i) {
		fill(list, api.Instr{Op: room})
	}
}

// Apart tells whether no two lists of i share memory, their spare room included.
func Apart(i api.Image) bool {
	return areApart(numbersOf(i), room) && areApart(codesOf(i), api.Instr{Op: room})
}

// areApart fills each list in turn, looks whether another one is turned by that,
// and lays what stood there again.
func areApart[T comparable](lists [][]T, with T) bool {
	for n, list := range lists {
		was := [][]T(nil)
		for _, other := range lists {
			was = append(was, slices.Clone(other))
		}
		fill(list, with)
		for m, other := range lists {
			if m != n && !slices.Equal(other, was[m]) {
				return false
			}
		}
		copy(list, was[n])
	}
	return true
}

// fill fills a list, and its spare room.
func fill[T any](list []T, with T) {
	whole := list[:cap(list)]
	for at := range whole {
		whole[at] = with
	}
}

// numbersOf answers i's lists of numbers.
func numbersOf(i api.Image) [][]int {
	all := [][]int{i.Fields, i.Exports}
	for _, m := range i.Imports {
		all = append(all, m.Params)
	}
	for _, m := range i.Methods {
		all = append(all, m.Params, m.Locals)
	}
	return all
}

// codesOf answers the code of each method of i.
func codesOf(i api.Image) [][]api.Instr {
	all := [][]api.Instr(nil)
	for _, m := range i.Methods {
		all = append(all, m.Code)
	}
	return all
}
