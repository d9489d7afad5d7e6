package lift_test

import (
	"fmt"
	"strconv"
	"strings"
	"testing"

	"taciturn/api"
	"taciturn/code"
	"taciturn/ir"
	"taciturn/lift"
	"taciturn/text"
	"taciturn/verify"
)

// rows are the chapter's node of each instruction that has one which hangs on it
// alone, written down apart: S1 is the register of what stands one below the
// stack's height, P the place to which A leads.
const rows = `
push    const{S0 A}
load    move{S0 A}
store   move{A S1}
dup     move{S0 S1}
add     bin{OP S2 S2 S1}
sub     bin{OP S2 S2 S1}
mul     bin{OP S2 S2 S1}
and     bin{OP S2 S2 S1}
or      bin{OP S2 S2 S1}
xor     bin{OP S2 S2 S1}
shl     bin{OP S2 S2 S1}
shr     bin{OP S2 S2 S1}
sar     bin{OP S2 S2 S1}
neg     un{OP S1 S1}
not     un{OP S1 S1}
div     serve{OP 0 0 S2 [S2 S1]}
rem     serve{OP 0 0 S2 [S2 S1]}
eq      bin{OP S2 S2 S1}
lt      bin{OP S2 S2 S1}
below   bin{OP S2 S2 S1}
pick    choose{S3 S3 S2 S1}
jump    goto{P}
jumpif  branch{S1 P}
null    const{S0 0}
isnull  un{OP S1 S1}
new     serve{OP A B S1 [S1]}
len     serve{OP 0 0 S1 [S1]}
get     serve{OP 0 0 S2 [S2 S1]}
put     serve{OP 0 0 -1 [S3 S2 S1]}
copy    serve{OP 0 0 -1 [S5 S4 S3 S2 S1]}
same    serve{OP 0 0 S5 [S5 S4 S3 S2 S1]}
getf    getfield{S0 A}
putf    putfield{A S1}
buf     const{S0 A}
send    serve{OP A 0 -1 [S3 S2 S1]}
`

// row answers the chapter's node of an instruction; empty of pop.
func row(i api.Image, method int, in api.Instr) string {
	switch name := code.Name(in.Op); name {
	case "pop":
		return ""
	case "call":
		return called(name, len(i.Methods[in.A].Params), i.Methods[in.A].Result)
	case "callx":
		return called(name, len(i.Imports[in.A].Params), i.Imports[in.A].Result)
	case "ret":
		if i.Methods[method].Result != 0 {
			return "ret{S1}"
		}
		return "ret{-1}"
	default:
		_, behind, _ := strings.Cut(rows, "\n"+name+" ")
		node, _, _ := strings.Cut(behind, "\n")
		return strings.TrimSpace(node)
	}
}

// called answers the node of a call of something that has so many params.
func called(name string, params, result int) string {
	dst, args := "-1", []string{}
	for n := params; n > 0; n-- {
		args = append(args, fmt.Sprint("S", n))
	}
	if result != 0 {
		dst = fmt.Sprint("S", params)
	}
	return fmt.Sprintf("%s{A %s [%s]}", name, dst, strings.Join(args, " "))
}

// nodeOf answers the chapter's node of an instruction that stands where the stack
// is d high, place being where its A leads; empty of pop.
func nodeOf(i api.Image, method int, in api.Instr, d, place int) string {
	pairs := []string{"OP", strconv.Itoa(in.Op), "A", strconv.Itoa(in.A), "B", strconv.Itoa(in.B), "P", strconv.Itoa(place)}
	for n := range 6 {
		pairs = append(pairs, fmt.Sprint("S", n), strconv.Itoa(10+d-n))
	}
	return strings.NewReplacer(pairs...).Replace(row(i, method, in))
}

// teller answers the nodes that the chapter tells of a method that is taken, and
// of each pc its first one.
func teller(i api.Image, method int) (nodes []string, first []int) {
	m := i.Methods[method]
	at := len(m.Locals)
	for pc, in := range m.Code {
		switch {
		case verify.Height(i, method, pc) < 0:
			first = append(first, -1)
			continue
		case code.Name(in.Op) == "pop":
			first, at = append(first, at), at+1
		default:
			first, at = append(first, at), at+2
		}
	}
	for k := range m.Locals {
		nodes = append(nodes, fmt.Sprintf("const{%d 0}", len(m.Params)+k))
	}
	for pc, in := range m.Code {
		if first[pc] < 0 {
			continue
		}
		place := 0
		if name := code.Name(in.Op); name == "jump" || name == "jumpif" {
			place = first[in.A]
		}
		nodes = append(nodes, "tick{}")
		if n := nodeOf(i, method, in, verify.Height(i, method, pc), place); n != "" {
			nodes = append(nodes, n)
		}
	}
	return nodes, first
}

// told tells each node of a program.
func told(p ir.Program) []string {
	all := []string(nil)
	for _, n := range p.Nodes {
		all = append(all, fmt.Sprint(n.Name(), n))
	}
	return all
}

// lifted holds all that is told of a method that is taken against the teller, and
// answers its program.
func lifted(t *testing.T, i api.Image, method int) ir.Program {
	t.Helper()
	p, first, ok := lift.Lift(i, method)
	if !ok {
		t.Fatalf("18.1: method %d is refused: %+v", method, i)
	}
	nodes, places := teller(i, method)
	if got := told(p); fmt.Sprint(got) != fmt.Sprint(nodes) {
		t.Errorf("18.1: nodes %v, not %v, of %+v", got, nodes, i.Methods[method])
	}
	if fmt.Sprint(first) != fmt.Sprint(places) {
		t.Errorf("18.1: first nodes %v, not %v, of %+v", first, places, i.Methods[method])
	}
	if params := len(i.Methods[method].Params); p.Params != params || p.Regs != 18 {
		t.Errorf("18.1: %d params, %d registers, not %d, 18", p.Params, p.Regs, params)
	}
	if !ir.Check(p) {
		t.Errorf("18.2: not right: %v", told(p))
	}
	return p
}

// refused holds that there is nothing of a method.
func refused(t *testing.T, what string, i api.Image, method int) {
	t.Helper()
	p, first, ok := lift.Lift(i, method)
	if ok || len(first) != 0 || p.Params != 0 || p.Regs != 0 || len(p.Nodes) != 0 {
		t.Errorf("18.1: %s: %t, %v, %+v", what, ok, first, p)
	}
}

// applet answers the image of some lines, parted by line feeds or semicolons,
// whether verify takes it or not.
func applet(t *testing.T, lines ...string) api.Image {
	t.Helper()
	i, n, e := text.Parse(strings.ReplaceAll(strings.Join(lines, "\n"), ";", "\n"))
	if e != api.OK {
		t.Fatalf("line %d of %q is none: %d", n, lines, e)
	}
	return i
}
