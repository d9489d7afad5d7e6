package ir_test

import (
	"math"
	"reflect"
	"slices"
	"strings"
	"testing"

	"taciturn/api"
	"taciturn/code"
	"taciturn/ir"
	"taciturn/sample"
)

// takes is how many Args a Serve of that Op has; 0 of what isn't served.
func takes(op int) int {
	switch code.Name(op) {
	case "new", "len":
		return 1
	case "div", "rem", "get":
		return 2
	case "put", "send":
		return 3
	case "copy", "same":
		return 5
	}
	return 0
}

// isOp tells whether a node of that name may have an Op.
func isOp(name string, op int) bool {
	switch name {
	case "bin":
		return slices.Contains(strings.Fields("add sub mul and or xor shl shr sar eq lt below"), code.Name(op))
	case "un":
		return slices.Contains(strings.Fields("neg not isnull"), code.Name(op))
	}
	return takes(op) > 0
}

// mayBe tells whether a node of that name may have a number in a field, in a
// program of regs registers and nodes nodes.
func mayBe(name, field string, n, regs, nodes int) bool {
	lack := 0
	switch name + " " + field {
	case "serve A", "serve B", "const N":
		return true
	case "serve Dst", "call Dst", "callx Dst", "ret Src":
		lack = 1
	}
	switch field {
	case "Op":
		return isOp(name, n)
	case "To":
		return 0 <= n && n < nodes
	case "F", "Method":
		return 0 <= n && n < 8
	case "Import":
		return 0 <= n && n < 4
	}
	return -lack <= n && n < regs
}

// rightNode tells whether a node is right, field by field.
func rightNode(n ir.Node, regs, nodes int) bool {
	v := reflect.ValueOf(n)
	if !v.IsValid() || !slices.ContainsFunc(types(), func(m ir.Node) bool { return reflect.TypeOf(m) == v.Type() }) {
		return false
	}
	name := strings.ToLower(v.Type().Name())
	for k := range v.NumField() {
		field := v.Type().Field(k).Name
		if field != "Args" {
			if !mayBe(name, field, int(v.Field(k).Int()), regs, nodes) {
				return false
			}
			continue
		}
		args := v.Field(k).Interface().([]int)
		for _, a := range args {
			if !mayBe(name, "an arg", a, regs, nodes) {
				return false
			}
		}
		if s, ok := n.(ir.Serve); ok && len(args) != takes(s.Op) || !ok && len(args) > 4 {
			return false
		}
	}
	return true
}

// right tells whether a program is right, as the chapter says it.
func right(p ir.Program) bool {
	count := len(p.Nodes)
	if count == 0 || count > 250 || p.Regs < 0 || p.Regs > 40 || p.Params < 0 || p.Params > 4 || p.Params > p.Regs {
		return false
	}
	for at, n := range p.Nodes {
		if !rightNode(n, p.Regs, count) {
			return false
		}
		if slices.ContainsFunc(next(n, at), func(k int) bool { return k < 0 || k >= count }) {
			return false
		}
	}
	return true
}

// bare is a program of that many Ticks and a ret.
func bare(ticks int) ir.Program {
	p := ir.Program{}
	for range ticks {
		p.Nodes = append(p.Nodes, ir.Tick{})
	}
	p.Nodes = append(p.Nodes, ir.Ret{Src: -1})
	return p
}

// TestCheckCounts: how many nodes, registers, params.
func TestCheckCounts(t *testing.T) {
	if ir.Check(ir.Program{}) || ir.Check(ir.Program{Regs: 3, Nodes: []ir.Node{}}) {
		t.Error("17.2: without nodes")
	}
	for count, want := range map[int]bool{1: true, 2: true, 249: true, 250: true, 251: false, 252: false, 1000: false, 1 << 16: false} {
		if p := bare(count - 1); ir.Check(p) != want {
			t.Errorf("17.2: of %d nodes: %t", count, !want)
		}
	}
	edges := []int{math.MinInt, -2, -1, 0, 1, 2, 3, 4, 5, 39, 40, 41, 42, math.MaxInt}
	for _, regs := range edges {
		for _, params := range edges {
			p := bare(1)
			p.Params, p.Regs = params, regs
			if ir.Check(p) != right(p) {
				t.Errorf("17.2: %d params of %d registers: %t", params, regs, !right(p))
			}
		}
	}
	if api.MaxParams != 4 || api.MaxFields != 8 || api.MaxMethods != 8 || api.MaxImports != 4 {
		t.Error("17.2: the test says other bounds than api")
	}
}

// good is a right node of each type, of a program of 3 registers.
func good() []ir.Node {
	all := []ir.Node{ir.Const{Dst: 1}, ir.Move{Dst: 1, Src: 2}, ir.Bin{Op: code.Add, Dst: 1, A: 2, B: 0}, ir.Un{Op: code.Neg, Dst: 1, A: 2}, ir.Choose{Dst: 1, C: 2, A: 1, B: 0}, ir.Tick{}, ir.Goto{To: 1}, ir.Branch{Cond: 1, To: 1}, ir.GetField{Dst: 1, F: 2}, ir.PutField{F: 2, Src: 1}, ir.Call{Method: 1, Dst: 1, Args: []int{1, 2, 0, 1}}, ir.Call{Dst: -1}, ir.CallX{Import: 1, Dst: 1, Args: []int{2}}, ir.CallX{Dst: -1}, ir.Ret{Src: 1}, ir.Ret{Src: -1}}
	for op := code.Push; op <= code.Ret; op++ {
		if takes(op) > 0 {
			all = append(all, ir.Serve{Op: op, Dst: 1, Args: make([]int, takes(op))})
		}
	}
	return all
}

// checks holds Check of a node, and of two others behind it, against the teller.
func checks(t *testing.T, n ir.Node) {
	p := ir.Program{Params: 1, Regs: 3, Nodes: []ir.Node{n, ir.Tick{}, ir.Ret{Src: -1}}}
	if ir.Check(p) != right(p) {
		t.Errorf("17.2: with %T%+v: %t", n, n, !right(p))
	}
	p.Nodes = []ir.Node{ir.Tick{}, ir.Ret{Src: -1}, n}
	if ir.Check(p) != right(p) {
		t.Errorf("17.2: with %T%+v at its end: %t", n, n, !right(p))
	}
}

// numbers are what may stand in a field, and what may not.
func numbers() []int {
	all := []int{math.MinInt, math.MinInt32, math.MaxInt32, math.MaxInt, 250, 1 << 8, 1 << 32, 1<<32 + 6}
	for n := -3; n < 45; n++ {
		all = append(all, n)
	}
	return all
}

// TestCheckFields: each number in each field of each type.
func TestCheckFields(t *testing.T) {
	for _, n := range good() {
		checks(t, n)
		v := reflect.ValueOf(n)
		for k := range v.NumField() {
			for _, value := range numbers() {
				turned := reflect.New(v.Type()).Elem()
				turned.Set(v)
				switch f := turned.Field(k); f.Kind() {
				case reflect.Int, reflect.Int32:
					if f.OverflowInt(int64(value)) {
						continue
					}
					f.SetInt(int64(value))
				default:
					args := slices.Clone(f.Interface().([]int))
					if len(args) == 0 {
						continue
					}
					args[max(0, value)%len(args)] = value
					f.Set(reflect.ValueOf(args))
				}
				checks(t, turned.Interface().(ir.Node))
			}
		}
	}
}

// TestCheckArgs: how many there are, of each Op, and of calls.
func TestCheckArgs(t *testing.T) {
	for count := range 8 {
		args := make([]int, count)
		for op := -1; op < 44; op++ {
			checks(t, ir.Serve{Op: op, Dst: 1, Args: args})
			checks(t, ir.Serve{Op: op, Dst: -1, A: -9, B: 1 << 40, Args: args})
		}
		checks(t, ir.Call{Dst: -1, Args: args})
		checks(t, ir.CallX{Dst: 1, Args: args})
		for k := range args {
			for _, r := range []int{-1, 2, 3} {
				args := slices.Clone(args)
				args[k] = r
				checks(t, ir.Call{Dst: -1, Args: args})
				checks(t, ir.CallX{Dst: 1, Args: args})
				checks(t, ir.Serve{Op: code.Copy, Dst: 1, Args: args})
				checks(t, ir.Serve{Op: code.Put, Dst: 1, Args: args})
			}
		}
	}
}

// TestCheckNodeless: nil, and what is no node, wherever it stands.
func TestCheckNodeless(t *testing.T) {
	for k, n := range nodeless() {
		for at := range 3 {
			p := bare(2)
			p.Regs = 3
			p.Nodes[at] = n
			if ir.Check(p) {
				t.Errorf("17.2: none %d at %d", k, at)
			}
		}
	}
}

// TestCheckNext: each way leads to a node, from each place.
func TestCheckNext(t *testing.T) {
	for at := range 6 {
		for to := -2; to < 9; to++ {
			for _, n := range []ir.Node{ir.Goto{To: to}, ir.Branch{To: to}} {
				p := bare(5)
				p.Regs = 1
				p.Nodes[at] = n
				if ir.Check(p) != right(p) {
					t.Errorf("17.2: %T to %d at %d of 6: %t", n, to, at, !right(p))
				}
			}
		}
	}
	if !ir.Check(ir.Program{Nodes: []ir.Node{ir.Goto{}}}) || ir.Check(ir.Program{Nodes: []ir.Node{ir.Tick{}}}) {
		t.Error("17.2: one node")
	}
	if ir.Check(ir.Program{Regs: 1, Nodes: []ir.Node{ir.Branch{}}}) {
		t.Error("17.2: a branch alone has no node behind it")
	}
}

// TestCheckDice: programs by dice, right ones, and with one node turned.
func TestCheckDice(t *testing.T) {
	dice := sample.NewDice(2)
	rights := 0
	for range 4000 {
		p := dice.Program(40, 40)
		if !ir.Check(p) || !right(p) {
			t.Fatalf("17.2: %+v", p)
		}
		p.Nodes[dice.UpTo(len(p.Nodes)-1)] = wild(dice, types()[dice.UpTo(13)])
		if ir.Check(p) != right(p) {
			t.Fatalf("17.2: %t of %+v", !right(p), p)
		}
		if right(p) {
			rights++
		}
	}
	if rights < 400 || rights > 3600 {
		t.Errorf("17.2: %d right ones of 4000", rights)
	}
}
