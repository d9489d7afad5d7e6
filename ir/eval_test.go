package ir_test

import (
	"math"
	"math/big"
	"slices"
	"testing"

	"taciturn/code"
	"taciturn/ir"
	"taciturn/sample"
)

// of32 is the number of 32 bits that a greater one leaves.
func of32(n *big.Int) int32 {
	rest := new(big.Int).Mod(n, big.NewInt(1<<32))
	return int32(uint32(rest.Uint64()))
}

// truth is 1 or 0.
func truth(is bool) int32 {
	if is {
		return 1
	}
	return 0
}

// made is what a Bin, or an Un, makes of its numbers.
func made(op int, a, b int32) int32 {
	x, y := big.NewInt(int64(a)), big.NewInt(int64(b))
	ux, by := big.NewInt(int64(uint32(a))), uint(b&31)
	z := new(big.Int)
	switch code.Name(op) {
	case "add":
		return of32(z.Add(x, y))
	case "sub":
		return of32(z.Sub(x, y))
	case "mul":
		return of32(z.Mul(x, y))
	case "and":
		return of32(z.And(x, y))
	case "or":
		return of32(z.Or(x, y))
	case "xor":
		return of32(z.Xor(x, y))
	case "shl":
		return of32(z.Lsh(x, by))
	case "shr":
		return of32(z.Rsh(ux, by))
	case "sar":
		return of32(z.Rsh(x, by))
	case "neg":
		return of32(z.Neg(x))
	case "not":
		return of32(z.Not(x))
	case "eq":
		return truth(a == b)
	case "lt":
		return truth(a < b)
	case "below":
		return truth(uint32(a) < uint32(b))
	}
	return truth(a == 0)
}

// walk does a program's pure nodes, as the chapter says.
func walk(p ir.Program, own []int32, at, most int) (r []int32, end, ticks int) {
	r = slices.Clone(own)
	for ; most > 0; most-- {
		after := at + 1
		switch n := p.Nodes[at].(type) {
		case ir.Const:
			r[n.Dst] = n.N
		case ir.Move:
			r[n.Dst] = r[n.Src]
		case ir.Bin:
			r[n.Dst] = made(n.Op, r[n.A], r[n.B])
		case ir.Un:
			r[n.Dst] = made(n.Op, r[n.A], 0)
		case ir.Choose:
			if r[n.C] == 0 {
				r[n.Dst] = r[n.B]
			} else {
				r[n.Dst] = r[n.A]
			}
		case ir.Tick:
			ticks++
		case ir.Goto:
			after = n.To
		case ir.Branch:
			if r[n.Cond] != 0 {
				after = n.To
			}
		default:
			return r, at, ticks
		}
		at = after
	}
	return r, at, ticks
}

// evals holds Eval against the walk.
func evals(t *testing.T, p ir.Program, own []int32, from, most int) {
	wantR, wantAt, wantTicks := walk(p, own, from, most)
	given := slices.Clone(own)
	r, at, ticks := ir.Eval(p, given, from, most)
	if !slices.Equal(r, wantR) || at != wantAt || ticks != wantTicks {
		t.Fatalf("17.3: from %d, %d, of %v: %v, %d, %d; must be %v, %d, %d: %+v", from, most, own, r, at, ticks, wantR, wantAt, wantTicks, p.Nodes)
	}
	if !slices.Equal(given, own) {
		t.Fatalf("R2: Eval turned %v into %v", own, given)
	}
}

// TestEvalDice: programs by dice, from each node, as many nodes as by dice.
func TestEvalDice(t *testing.T) {
	dice := sample.NewDice(3)
	for range 1500 {
		p := dice.Program(30, 1+dice.UpTo(12))
		for from := range p.Nodes {
			evals(t, p, dice.Words(p.Regs), from, dice.UpTo(60))
		}
	}
}

// edges are numbers about which something turns.
func edges() []int32 {
	return []int32{0, 1, -1, 2, 31, 32, 33, -32, 0x12345678, math.MaxInt32, math.MinInt32, math.MinInt32 + 1}
}

// TestEvalOps: each Op, over each pair of edges, one node alone.
func TestEvalOps(t *testing.T) {
	for _, n := range good() {
		if !ir.Pure(n) {
			continue
		}
		for op := code.Push; op <= code.Ret; op++ {
			p := ir.Program{Regs: 3, Nodes: []ir.Node{n, ir.Tick{}, ir.Ret{Src: -1}}}
			switch n := n.(type) {
			case ir.Bin:
				n.Op = op
				p.Nodes[0] = n
			case ir.Un:
				n.Op = op
				p.Nodes[0] = n
			}
			if !right(p) {
				continue
			}
			for _, a := range edges() {
				for _, b := range edges() {
					evals(t, p, []int32{a, 77, b}, 0, 1)
				}
			}
		}
	}
}

// TestEvalOne: a node that writes what it reads.
func TestEvalOne(t *testing.T) {
	p := ir.Program{Regs: 1, Nodes: []ir.Node{ir.Bin{Op: code.Sub}, ir.Un{Op: code.Not}, ir.Choose{}, ir.Move{}, ir.Const{N: math.MinInt32}, ir.Ret{}}}
	for most, want := range []int32{5, 0, -1, -1, -1, math.MinInt32, math.MinInt32} {
		if r, at, ticks := ir.Eval(p, []int32{5}, 0, most); len(r) != 1 || r[0] != want || at != min(most, 5) || ticks != 0 {
			t.Errorf("17.3: %d nodes: %v, %d, %d", most, r, at, ticks)
		}
	}
}

// TestEvalTicks: Ticks are nodes too, of which there are at most most.
func TestEvalTicks(t *testing.T) {
	p := ir.Program{Nodes: []ir.Node{ir.Tick{}, ir.Tick{}, ir.Goto{}}}
	for most, want := range [][2]int{{0, 0}, {1, 1}, {2, 2}, {0, 2}, {1, 3}, {2, 4}, {0, 4}} {
		if r, at, ticks := ir.Eval(p, nil, 0, most); len(r) != 0 || at != want[0] || ticks != want[1] {
			t.Errorf("17.3: %d nodes: %v, %d, %d", most, r, at, ticks)
		}
	}
	if _, at, ticks := ir.Eval(p, nil, 0, 300001); at != 1 || ticks != 200001 {
		t.Errorf("17.3: many nodes: %d, %d", at, ticks)
	}
}

// TestEvalStops: at each type that is not pure, ahead of it.
func TestEvalStops(t *testing.T) {
	for _, n := range good() {
		p := ir.Program{Regs: 3, Nodes: []ir.Node{ir.Tick{}, n, ir.Ret{Src: -1}}}
		if !right(p) {
			t.Fatalf("17.2: %+v", n)
		}
		if !ir.Pure(n) {
			if r, at, ticks := ir.Eval(p, []int32{1, 2, 3}, 0, 9); !slices.Equal(r, []int32{1, 2, 3}) || at != 1 || ticks != 1 {
				t.Errorf("17.3: ahead of %T: %v, %d, %d", n, r, at, ticks)
			}
		}
		evals(t, p, []int32{1, 2, 3}, 1, 0)
	}
}

// TestEvalNone: a count below 0, a place that is none, other than Regs words, a
// program that is not right.
func TestEvalNone(t *testing.T) {
	p := ir.Program{Regs: 1, Nodes: []ir.Node{ir.Tick{}, ir.Const{N: 9}, ir.Ret{}}}
	for _, most := range []int{-1, math.MinInt} {
		if r, at, ticks := ir.Eval(p, []int32{5}, 1, most); !slices.Equal(r, []int32{5}) || at != 1 || ticks != 0 {
			t.Errorf("R5: %d nodes: %v, %d, %d", most, r, at, ticks)
		}
	}
	for _, from := range []int{math.MinInt, -1, 3, 4, math.MaxInt} {
		nothing(t, p, []int32{5}, from)
	}
	nothing(t, p, nil, 0)
	nothing(t, p, []int32{5, 5}, 0)
	for k, n := range nodeless() {
		turned := ir.Program{Regs: 1, Nodes: []ir.Node{ir.Tick{}, n, ir.Ret{}}}
		if ir.Check(turned) {
			t.Fatalf("17.2: none %d", k)
		}
		nothing(t, turned, []int32{5}, 0)
	}
	nothing(t, ir.Program{}, nil, 0)
	nothing(t, ir.Program{Regs: 1, Nodes: []ir.Node{ir.Move{Src: -1}, ir.Ret{}}}, []int32{5}, 0)
	nothing(t, ir.Program{Regs: 1, Nodes: []ir.Node{ir.Goto{To: 7}}}, []int32{5}, 0)
	nothing(t, ir.Program{Regs: 1, Nodes: []ir.Node{ir.Tick{}}}, []int32{5}, 0)
	nothing(t, ir.Program{Regs: 41, Nodes: []ir.Node{ir.Ret{}}}, make([]int32, 41), 0)
}

// nothing is what Eval answers there.
func nothing(t *testing.T, p ir.Program, regs []int32, from int) {
	if r, at, ticks := ir.Eval(p, regs, from, 9); len(r) != 0 || at != 0 || ticks != 0 {
		t.Errorf("R1: from %d of %+v: %v, %d, %d", from, p, r, at, ticks)
	}
}

// TestEvalMemory: R2, registers that are answered are new ones, spare room too.
func TestEvalMemory(t *testing.T) {
	p := ir.Program{Regs: 2, Nodes: []ir.Node{ir.Const{N: 9}, ir.Ret{}}}
	own := []int32{1, 2, 3, 4}
	for most := range 2 {
		r, _, _ := ir.Eval(p, own[:2], 0, most)
		r = r[:cap(r)]
		for k := range r {
			r[k] = 7
		}
		if !slices.Equal(own, []int32{1, 2, 3, 4}) {
			t.Fatalf("R2: %v", own)
		}
	}
}
