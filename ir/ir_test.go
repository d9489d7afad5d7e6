package ir_test

import (
	"go/ast"
	"go/parser"
	"go/token"
	"math"
	"os"
	"reflect"
	"slices"
	"strings"
	"testing"

	"taciturn/code"
	"taciturn/ir"
	"taciturn/sample"
)

// types is one node of each type, of zeros.
func types() []ir.Node {
	return []ir.Node{ir.Const{}, ir.Move{}, ir.Bin{}, ir.Un{}, ir.Choose{}, ir.Tick{}, ir.Goto{}, ir.Branch{}, ir.GetField{}, ir.PutField{}, ir.Serve{}, ir.Call{}, ir.CallX{}, ir.Ret{}}
}

// alien has a name, but is no node of the chapter's.
type alien struct{ Dst, Src int }

func (a alien) Name() string { return "const" }

// silent may not even be asked for its name.
type silent struct{}

func (s *silent) Name() string { panic("asked") }

// nodeless is nil, types that are none of the chapter's, and pointers to some.
func nodeless() []ir.Node {
	return []ir.Node{nil, alien{}, alien{1, 2}, &alien{}, &silent{}, (*silent)(nil), &ir.Const{}, (*ir.Const)(nil), &ir.Move{Dst: 1, Src: 1}, &ir.Branch{Cond: 1, To: 1}, (*ir.Branch)(nil), &ir.Goto{}, &ir.Ret{Src: -1}, (*ir.Ret)(nil), &ir.Serve{Op: code.Len, Args: []int{0}}, &ir.Tick{}, (*ir.Tick)(nil)}
}

// told is what the chapter tells of a node.
type told struct {
	name      string
	uses      []int
	def       int
	isA       bool // a Serve's A, B are no registers
	pure      bool
	goes, end bool
	to        int
}

// teller tells of a node by the names of its fields alone.
func teller(n ir.Node) told {
	v := reflect.ValueOf(n)
	name := strings.ToLower(v.Type().Name())
	t := told{name: name, def: -1, isA: name != "serve", end: name == "ret", goes: name == "goto"}
	t.pure = slices.Contains(strings.Fields("const move bin un choose tick goto branch"), name)
	for k := range v.NumField() {
		f := v.Field(k)
		switch v.Type().Field(k).Name {
		case "Dst":
			t.def = int(f.Int())
		case "C", "Cond":
			t.uses = append(t.uses, int(f.Int()))
		case "A", "B":
			if t.isA {
				t.uses = append(t.uses, int(f.Int()))
			}
		case "Src":
			if f.Int() != -1 {
				t.uses = append(t.uses, int(f.Int()))
			}
		case "Args":
			t.uses = append(t.uses, f.Interface().([]int)...)
		case "To":
			t.to = int(f.Int())
		}
	}
	return t
}

// next is what may come behind a node at a place.
func next(n ir.Node, at int) []int {
	t := teller(n)
	switch {
	case at < 0 || t.end:
		return nil
	case t.goes:
		return []int{t.to}
	case t.name == "branch" && t.to != at+1:
		return []int{at + 1, t.to}
	}
	return []int{at + 1}
}

// wild is a node of a type, its numbers by dice, right or not.
func wild(dice *sample.Dice, n ir.Node) ir.Node {
	v := reflect.New(reflect.TypeOf(n)).Elem()
	for k := range v.NumField() {
		f := v.Field(k)
		if f.Kind() == reflect.Slice {
			args := make([]int, dice.UpTo(6))
			for a := range args {
				args[a] = number(dice)
			}
			f.Set(reflect.ValueOf(args))
			continue
		}
		f.SetInt(int64(number(dice)))
	}
	return v.Interface().(ir.Node)
}

// number is a number by dice, about a register mostly.
func number(dice *sample.Dice) int {
	far := []int{-2, -1, 40, 41, 1000, math.MaxInt32, math.MinInt32}
	if dice.UpTo(3) == 0 {
		return far[dice.UpTo(len(far)-1)]
	}
	return dice.UpTo(11)
}

// TestNodes: what is told of nodes of each type, of numbers that follow no rule.
func TestNodes(t *testing.T) {
	dice := sample.NewDice(17)
	for _, kind := range types() {
		for range 500 {
			n := wild(dice, kind)
			want := teller(n)
			if n.Name() != want.name {
				t.Errorf("17.1: %T's name is %q", n, n.Name())
			}
			if got := ir.Uses(n); !slices.Equal(got, want.uses) {
				t.Errorf("17.1: %T%+v Uses %v", n, n, got)
			}
			if got := ir.Def(n); got != want.def {
				t.Errorf("17.1: %T%+v Defs %d", n, n, got)
			}
			if got := ir.Pure(n); got != want.pure {
				t.Errorf("17.1: %T%+v is pure: %t", n, n, got)
			}
		}
	}
}

// TestNames: the words, each of them.
func TestNames(t *testing.T) {
	words := ""
	for _, n := range types() {
		words += " " + n.Name()
	}
	if words != " const move bin un choose tick goto branch getfield putfield serve call callx ret" {
		t.Errorf("17.1:%s", words)
	}
}

// TestUses: each field, so that none stands in for another one.
func TestUses(t *testing.T) {
	for _, c := range []struct {
		n    ir.Node
		uses []int
		def  int
	}{
		{ir.Const{Dst: 1, N: 2}, nil, 1},
		{ir.Move{Dst: 1, Src: 2}, []int{2}, 1},
		{ir.Move{Dst: 1, Src: -1}, nil, 1},
		{ir.Bin{Op: 9, Dst: 1, A: 2, B: 3}, []int{2, 3}, 1},
		{ir.Bin{Op: 9, Dst: 1, A: 2, B: 2}, []int{2, 2}, 1},
		{ir.Un{Op: 9, Dst: 1, A: 2}, []int{2}, 1},
		{ir.Choose{Dst: 1, C: 2, A: 3, B: 4}, []int{2, 3, 4}, 1},
		{ir.Tick{}, nil, -1},
		{ir.Goto{To: 3}, nil, -1},
		{ir.Branch{Cond: 1, To: 3}, []int{1}, -1},
		{ir.GetField{Dst: 1, F: 2}, nil, 1},
		{ir.PutField{F: 1, Src: 2}, []int{2}, -1},
		{ir.PutField{F: 1, Src: -1}, nil, -1},
		{ir.Serve{Op: 9, A: 7, B: 8, Dst: 1, Args: []int{4, 3, 4}}, []int{4, 3, 4}, 1},
		{ir.Serve{Op: 9, A: 7, B: 8, Dst: -1}, nil, -1},
		{ir.Call{Method: 9, Dst: 1, Args: []int{4, 3}}, []int{4, 3}, 1},
		{ir.CallX{Import: 9, Dst: -1, Args: []int{4, 3}}, []int{4, 3}, -1},
		{ir.Ret{Src: 5}, []int{5}, -1},
		{ir.Ret{Src: 0}, []int{0}, -1},
		{ir.Ret{Src: -1}, nil, -1},
	} {
		if uses, def := ir.Uses(c.n), ir.Def(c.n); !slices.Equal(uses, c.uses) || def != c.def {
			t.Errorf("17.1: %T%+v: %v, %d", c.n, c.n, uses, def)
		}
	}
}

// TestExample: the chapter's.
func TestExample(t *testing.T) {
	if got := ir.Next(ir.Branch{Cond: 0, To: 5}, 2); !slices.Equal(got, []int{3, 5}) {
		t.Errorf("17.1: %v", got)
	}
}

// TestNext: each type, at each of some places, to each of some.
func TestNext(t *testing.T) {
	for _, kind := range types() {
		for at := range 12 {
			if got := ir.Next(kind, at); !slices.Equal(got, next(kind, at)) {
				t.Errorf("17.1: Next of %T at %d: %v", kind, at, got)
			}
		}
	}
	for at := range 12 {
		for to := -2; to < 14; to++ {
			for _, n := range []ir.Node{ir.Goto{To: to}, ir.Branch{Cond: 1, To: to}} {
				if got := ir.Next(n, at); !slices.Equal(got, next(n, at)) {
					t.Errorf("17.1: Next of %T%+v at %d: %v", n, n, at, got)
				}
			}
		}
	}
	if got := ir.Next(ir.Branch{To: 8}, 7); len(got) != 1 {
		t.Errorf("17.1: once, if they are the same: %v", got)
	}
}

// TestNextNowhere: R5, at a place below 0 stands no node.
func TestNextNowhere(t *testing.T) {
	for _, kind := range types() {
		for _, at := range []int{-1, -2, math.MinInt} {
			if got := ir.Next(kind, at); len(got) != 0 {
				t.Errorf("R5: Next of %T at %d: %v", kind, at, got)
			}
		}
		ir.Next(kind, math.MaxInt)
	}
}

// TestNodeless: of nil, and of what is no node, there is nothing to be told.
func TestNodeless(t *testing.T) {
	for k, n := range nodeless() {
		if uses, following := ir.Uses(n), ir.Next(n, 3); len(uses) != 0 || len(following) != 0 {
			t.Errorf("17.1: none %d: %v, %v", k, uses, following)
		}
		if ir.Def(n) != -1 || ir.Pure(n) {
			t.Errorf("17.1: none %d: %d, %t", k, ir.Def(n), ir.Pure(n))
		}
	}
}

// panics tells whether MustBranch panics, and what it answers, if it does not.
func panics(n ir.Node) (b ir.Branch, is bool) {
	defer func() { is = recover() != nil }()
	return ir.MustBranch(n), false
}

// TestMustBranch: of a Branch it, whatever it has; of all others a panic.
func TestMustBranch(t *testing.T) {
	for _, want := range []ir.Branch{{}, {Cond: 4, To: 2}, {Cond: -1, To: -7}} {
		if b, is := panics(want); is || b != want {
			t.Errorf("17.1: MustBranch of %+v: %+v, panics: %t", want, b, is)
		}
	}
	for _, n := range append(types(), nodeless()...) {
		if _, is := panics(n); is == (n == ir.Node(ir.Branch{})) {
			t.Errorf("17.1: MustBranch of %T panics: %t", n, is)
		}
	}
}

// TestNewMemory: R2, a list that is answered is no node's, spare room too.
func TestNewMemory(t *testing.T) {
	own := []int{1, 2, 9, 9}
	for _, n := range []ir.Node{ir.Serve{Args: own[:2]}, ir.Call{Args: own[:2]}, ir.CallX{Args: own[:2]}} {
		got := ir.Uses(n)
		fill(got[:cap(got)], 7)
		if !slices.Equal(own, []int{1, 2, 9, 9}) || !slices.Equal(ir.Uses(n), []int{1, 2}) {
			t.Fatalf("R2: Uses of %T: %v", n, own)
		}
	}
	for _, n := range []ir.Node{ir.Bin{A: 1, B: 2}, ir.Branch{Cond: 3, To: 4}, ir.Tick{}, ir.Goto{To: 3}, ir.Ret{Src: 1}} {
		uses, following := ir.Uses(n), ir.Next(n, 1)
		fill(ir.Uses(n), 7)
		fill(ir.Next(n, 1), 7)
		if !slices.Equal(ir.Uses(n), uses) || !slices.Equal(ir.Next(n, 1), following) {
			t.Errorf("R2: %T", n)
		}
	}
}

// fill lays a number all over a list.
func fill(list []int, n int) {
	for k := range list {
		list[k] = n
	}
}

// TestWays: nodes are walked by type switches, told apart by two-valued
// assertions, and taken by one that panics; none of that in a call that the
// chapter lists.
func TestWays(t *testing.T) {
	files, e := os.ReadDir(".")
	if e != nil {
		t.Fatal(e)
	}
	switches, asserted, both := 0, 0, 0
	for _, f := range files {
		if !strings.HasSuffix(f.Name(), ".go") || strings.HasSuffix(f.Name(), "_test.go") {
			continue
		}
		tree, e := parser.ParseFile(token.NewFileSet(), f.Name(), nil, 0)
		if e != nil {
			t.Fatal(e)
		}
		for _, d := range tree.Decls {
			s, a, b := ways(d)
			if f, ok := d.(*ast.FuncDecl); ok && f.Name.IsExported() && s+a > 0 {
				t.Errorf("Ways: %s walks what comes in", f.Name.Name)
			}
			switches, asserted, both = switches+s, asserted+a, both+b
		}
	}
	if switches < 1 || both < 1 || asserted != both+1 {
		t.Errorf("Ways: %d type switches, %d assertions, %d of them two-valued", switches, asserted, both)
	}
}

// ways counts the type switches of a declaration, its assertions, and those of
// them that are two-valued.
func ways(d ast.Decl) (switches, asserted, both int) {
	ast.Inspect(d, func(n ast.Node) bool {
		switch n := n.(type) {
		case *ast.TypeSwitchStmt:
			switches++
		case *ast.TypeAssertExpr:
			if n.Type != nil {
				asserted++
			}
		case *ast.AssignStmt:
			if _, ok := n.Rhs[0].(*ast.TypeAssertExpr); ok && len(n.Lhs) == 2 {
				both++
			}
		}
		return true
	})
	return switches, asserted, both
}
