package lift_test

import (
	"fmt"
	"math"
	"slices"
	"strings"
	"testing"

	"taciturn/api"
	"taciturn/code"
	"taciturn/image"
	"taciturn/ir"
	"taciturn/lift"
	"taciturn/sample"
	"taciturn/verify"
)

// TestExample: the chapter's.
func TestExample(t *testing.T) {
	p, first, ok := lift.Lift(applet(t, "applet a; method none; push 7; pop; ret"), 0)
	if got := fmt.Sprint(told(p)); !ok || got != "[tick{} const{10 7} tick{} tick{} ret{-1}]" {
		t.Errorf("18.1: %t, %s", ok, got)
	}
	if !slices.Equal(first, []int{0, 2, 3}) {
		t.Errorf("18.1: %v", first)
	}
}

// TestRegs: so many, as a constant.
func TestRegs(t *testing.T) {
	if all := [lift.Regs]int{}; len(all) != 18 {
		t.Errorf("18.1: %d registers", len(all))
	}
}

// around are the lines that stand around a method of TestEach: what it may name,
// each with as many params as its number, or half of it.
const around = `applet a
field pub; field sec; field puba; field seca; field pub; field pub; field pub; field pub
import b 0 none; import b 1 pub pub; import b 2 none seca pub; import b 3 puba seca pub sec puba
method none; locals pub sec puba seca pub pub pub pub pub pub
`

// others are the methods behind that one.
const others = `
method pub; push 1; ret
method none pub; ret
method seca sec pub; buf 2; ret
method none pub sec puba; ret
method sec seca puba pub sec; push 1; ret
method none; ret
method pub pub pub pub pub; load 3; ret
`

// TestEach: each instruction's node, by each of its numbers, at each height at
// which it may stand.
func TestEach(t *testing.T) {
	seen := map[string]bool{}
	for _, c := range []struct{ takes, all string }{
		{"", "push 0;push -1;push 2147483647;push -2147483648;push 300;null 3;null 4;buf 1;buf 2"},
		{"", "load 0;load 1;load 2;load 3;load 9;getf 0;getf 1;getf 2;getf 3;getf 7;jump T;ret"},
		{"push 1", "pop;dup;neg;not;store 0;store 1;store 9;putf 0;putf 1;putf 7;jumpif T;jump T;ret"},
		{"push 1;push 2", "add;sub;mul;and;or;xor;shl;shr;sar;div;rem;eq;lt;below;dup;pop"},
		{"load 1;load 0", "add;sub;mul;and;or;xor;shl;shr;sar;eq;lt;below;dup"},
		{"push 1;load 0;load 1", "pick"},
		{"push 1;load 2;buf 1", "pick;dup;pop"},
		{"buf 1", "isnull;len;pop;dup;store 2;putf 2"},
		{"load 3", "isnull;len;pop;dup;store 3;putf 3"},
		{"push 4", "new 3 0;new 3 1;new 3 2;new 3 4;new 3 5;new 3 6;new 4 0;new 4 1;new 4 2;new 4 4;new 4 5;new 4 6"},
		{"buf 2;push 1", "get"},
		{"buf 2;push 1;load 1", "put"},
		{"buf 2;push 1;buf 1;push 2;push 3", "copy;same"},
		{"buf 1;push 1;push 2", "send 1;send 2"},
		{"", "call 1;call 6;callx 0"},
		{"push 1", "call 2;callx 1"},
		{"load 1;push 1", "call 3"},
		{"load 3;push 1", "callx 2"},
		{"push 1;load 1;buf 1", "call 4"},
		{"buf 2;buf 1;push 1;load 1", "call 5"},
		{"buf 2;push 1;load 1;buf 1", "callx 3"},
		{"push 1;push 2;push 3;push 4", "call 7"},
	} {
		for in := range strings.SplitSeq(c.all, ";") {
			for below := range api.MaxStack + 1 {
				seen[eachAt(t, below, c.takes, in)] = true
			}
		}
	}
	for op := code.Push; op <= code.Ret; op++ {
		if !seen[code.Name(op)] {
			t.Errorf("18.1: %s is not seen", code.Name(op))
		}
	}
}

// eachAt holds the nodes of an instruction that stands above so many values and
// what it takes, and answers its name; none, where it may not stand.
func eachAt(t *testing.T, below int, takes, in string) string {
	t.Helper()
	lines := slices.Repeat([]string{"push 9"}, below)
	if takes != "" {
		lines = append(lines, strings.Split(takes, ";")...)
	}
	pc := len(lines)
	lines = append(lines, strings.ReplaceAll(in, "T", fmt.Sprint(pc+1)), "ret")
	i := applet(t, around, strings.Join(lines, "\n"), others)
	if _, e := verify.Verify(i); e == api.ErrStack {
		refused(t, in, i, 0)
		return ""
	}
	p := lifted(t, i, 0)
	does := i.Methods[0].Code[pc]
	// Ten locals are cleared, and a value that is laid takes two nodes.
	at := 10 + 2*pc
	if want := nodeOf(i, 0, does, pc, at+2); want != "" && fmt.Sprint(told(p)[at:at+2]) != "[tick{} "+want+"]" {
		t.Errorf("18.1: %s at height %d: %v, not %s", in, pc, told(p), want)
	}
	return code.Name(does.Op)
}

// TestWhole: a method of each kind of node, told whole.
func TestWhole(t *testing.T) {
	i := applet(t, "applet a; field sec; import b 0 none pub; method none; ret; method sec seca pub; locals sec puba",
		"load 0; load 1; get; store 2; load 1; jumpif 10; push 5; callx 0; jump 12; dup; load 1; jump 7; getf 0; load 2; add; dup; putf 0; ret")
	p := lifted(t, i, 1)
	want := "[const{2 0} const{3 0} tick{} move{10 0} tick{} move{11 1} tick{} serve{29 0 0 10 [10 11]} tick{} move{2 10} " +
		"tick{} move{10 1} tick{} branch{10 20} tick{} const{10 5} tick{} callx{0 -1 [10]} tick{} goto{24} tick{} move{10 1} tick{} goto{16} " +
		"tick{} getfield{10 0} tick{} move{11 2} tick{} bin{6 10 10 11} tick{} move{11 10} tick{} putfield{0 11} tick{} ret{10}]"
	if got := fmt.Sprint(told(p)); got != want {
		t.Errorf("18.1: %s", got)
	}
	if _, first, _ := lift.Lift(i, 1); fmt.Sprint(first) != "[2 4 6 8 10 12 14 16 18 -1 20 22 24 26 28 30 32 34]" {
		t.Errorf("18.1: %v", first)
	}
}

// TestLocals: each number of params and of locals behind them.
func TestLocals(t *testing.T) {
	for params := range api.MaxParams + 1 {
		for locals := range api.MaxLocals - params + 1 {
			kinds := func(n int) string {
				return strings.Join(strings.Fields("sec seca pub puba sec seca pub puba sec sec")[:n], " ")
			}
			lines := []string{"applet a; method none; ret; method none " + kinds(params)}
			if locals > 0 {
				lines = append(lines, "locals "+kinds(locals))
			}
			p := lifted(t, applet(t, append(lines, "push 3; ret")...), 1)
			for k := range locals {
				if n := p.Nodes[k]; n != (ir.Const{Dst: params + k}) {
					t.Errorf("18.1: %d params, %d locals: %v", params, locals, told(p))
				}
			}
			if got := fmt.Sprint(told(p)[locals:]); got != "[tick{} const{10 3} tick{} ret{-1}]" || p.Params != params {
				t.Errorf("18.1: %d params, %d locals: %s, %d", params, locals, got, p.Params)
			}
		}
	}
}

// TestReached: what is reached by one way alone, or by none, and where each leads.
func TestReached(t *testing.T) {
	for lines, want := range map[string]string{
		"jump 0":                               "[const{0 0} tick{} goto{1}] [1]",
		"jump 1; ret":                          "[const{0 0} tick{} goto{3} tick{} ret{-1}] [1 3]",
		"jump 2; ret; jump 1":                  "[const{0 0} tick{} goto{5} tick{} ret{-1} tick{} goto{3}] [1 3 5]",
		"jump 2; jump 2; ret":                  "[const{0 0} tick{} goto{3} tick{} ret{-1}] [1 -1 3]",
		"ret; pop; add; call 0; jump 0":        "[const{0 0} tick{} ret{-1}] [1 -1 -1 -1 -1]",
		"push 1; jumpif 2; ret":                "[const{0 0} tick{} const{10 1} tick{} branch{10 5} tick{} ret{-1}] [1 3 5]",
		"push 1; jumpif 0; ret":                "[const{0 0} tick{} const{10 1} tick{} branch{10 1} tick{} ret{-1}] [1 3 5]",
		"push 1; dup; jumpif 1; ret":           "[const{0 0} tick{} const{10 1} tick{} move{11 10} tick{} branch{11 3} tick{} ret{-1}] [1 3 5 7]",
		"jump 4; pop; ret; ret; push 1;jump 1": "[const{0 0} tick{} goto{6} tick{} tick{} ret{-1} tick{} const{10 1} tick{} goto{3}] [1 3 4 -1 6 8]",
		"push 1; push 2; jumpif 4; neg; pop; ret": "[const{0 0} tick{} const{10 1} tick{} const{11 2} tick{} branch{11 9} tick{} un{15 10 10} tick{} tick{} ret{-1}] " +
			"[1 3 5 7 9 10]",
	} {
		i := applet(t, "applet a; method none; locals pub; "+lines)
		p := lifted(t, i, 0)
		_, first, _ := lift.Lift(i, 0)
		if got := fmt.Sprint(told(p), first); got != want {
			t.Errorf("18.1: %s: %s, not %s", lines, got, want)
		}
	}
}

// TestShort: all methods of at most four of some instructions, of which verify
// takes a part.
func TestShort(t *testing.T) {
	taken := 0
	for length := 1; length <= 4; length++ {
		some := []api.Instr{{Op: code.Push}, {Op: code.Pop}, {Op: code.Ret}}
		for to := range length {
			some = append(some, api.Instr{Op: code.Jump, A: to}, api.Instr{Op: code.JumpIf, A: to})
		}
		all := int(math.Pow(float64(len(some)), float64(length)))
		for n := range all {
			i := sample.Least()
			i.Methods[0].Code = nil
			for range length {
				i.Methods[0].Code = append(i.Methods[0].Code, some[n%len(some)])
				n /= len(some)
			}
			if _, e := verify.Verify(i); e != api.OK {
				refused(t, "a short one", i, 0)
				continue
			}
			lifted(t, i, 0)
			taken++
		}
	}
	if taken < 1000 {
		t.Errorf("18.1: %d are taken, too few to tell", taken)
	}
}

// TestRefused: nothing of what verify does not take, be it for another method.
func TestRefused(t *testing.T) {
	for lines, want := range map[string]api.Errno{
		"load 1; ret":            api.ErrRange,
		"jump 2; ret":            api.ErrRange,
		"pop; ret":               api.ErrStack,
		"push 1; jump 0":         api.ErrJoin,
		"push 1; len; ret":       api.ErrKind,
		"load 0; jumpif 2; ret":  api.ErrLeak,
		"push 1":                 api.ErrEnd,
		"ret; getf 0":            api.ErrRange,
		"push 1; jumpif 3; ret;": api.ErrRange,
	} {
		alone := applet(t, "applet a; method none; locals sec; "+lines)
		if _, e := verify.Verify(alone); e != want {
			t.Errorf("7.1: %s: %d", lines, e)
		}
		refused(t, lines, alone, 0)
		other := applet(t, "applet a; method none; ret; method none; locals sec; "+lines+"; method none; ret")
		for method := -1; method < 4; method++ {
			refused(t, "beside "+lines, other, method)
		}
	}
}

// TestNotRight: nothing of an image that is not right, whatever it has.
func TestNotRight(t *testing.T) {
	refused(t, "none", api.Image{}, 0)
	for n, turn := range []func(i *api.Image){
		func(i *api.Image) { i.Name = "" },
		func(i *api.Image) { i.Methods[0].Result = api.PubInt },
		func(i *api.Image) { i.Methods[0].Params = []int{api.PubInt} },
		func(i *api.Image) { i.Methods[0].Locals = make([]int, 11) },
		func(i *api.Image) { i.Methods[0].Code = nil },
		func(i *api.Image) { i.Methods[0].Code = slices.Repeat(i.Methods[0].Code, 121) },
		func(i *api.Image) { i.Methods[0].Code[0].Op = 40 },
		func(i *api.Image) { i.Methods[0].Code[0].Op = math.MinInt },
		func(i *api.Image) { i.Methods[0].Code[0].A = 1 },
		func(i *api.Image) { i.Methods[0].Code[0] = api.Instr{Op: code.Jump, A: -1} },
		func(i *api.Image) { i.Methods[0].Code[0] = api.Instr{Op: code.Jump, A: math.MaxInt} },
		func(i *api.Image) { i.Methods[0].Code[0] = api.Instr{Op: code.Push, A: math.MaxInt32 + 1} },
		func(i *api.Image) { i.Exports = []int{1} },
		func(i *api.Image) { i.Fields = []int{0} },
		func(i *api.Image) { i.Methods = slices.Repeat(i.Methods, 9) },
	} {
		i := sample.Least()
		turn(&i)
		refused(t, fmt.Sprint("turn ", n), i, 0)
	}
	dice := sample.NewDice(18)
	for range 300 {
		i := dice.Image()
		_, e := verify.Verify(i)
		for method := range i.Methods {
			if e != api.OK {
				refused(t, "by dice", i, method)
				continue
			}
			lifted(t, i, method)
		}
	}
}

// TestNoMethod: R5, methods that are none.
func TestNoMethod(t *testing.T) {
	i := applet(t, "applet a; method none; ret; method pub; push 1; ret")
	for _, method := range []int{math.MinInt, math.MinInt32, -1 << 32, -2, -1, 2, 3, 8, 1 << 32, 1<<32 + 1, math.MaxInt} {
		refused(t, fmt.Sprint("method ", method), i, method)
	}
	for method := range 2 {
		lifted(t, i, method)
	}
}

// TestMost: 18.2, as many locals and instructions as there may be are as many
// nodes as a program may have; a method more, or less, turns nothing.
func TestMost(t *testing.T) {
	lines := "applet a; method none; locals pub pub pub pub pub pub pub pub pub pub" + strings.Repeat("; push 1; store 9", 59)
	i := applet(t, lines+"; jump 119; ret")
	p := lifted(t, i, 0)
	if len(p.Nodes) != 250 || len(i.Methods[0].Code) != api.MaxCode {
		t.Errorf("18.2: %d nodes of %d instructions", len(p.Nodes), len(i.Methods[0].Code))
	}
	for len(i.Methods) < api.MaxMethods {
		i.Methods = append(i.Methods, i.Methods[0])
	}
	for method := range i.Methods {
		if got := lifted(t, i, method); !slices.Equal(told(got), told(p)) {
			t.Errorf("18.1: method %d: %v", method, told(got))
		}
	}
	if p := lifted(t, sample.Least(), 0); len(p.Nodes) != 2 {
		t.Errorf("18.1: %v", told(p))
	}
}

// TestByDice: images that verify takes, each method of them.
func TestByDice(t *testing.T) {
	seen := map[string]int{}
	for start := range 120 {
		for _, i := range sample.NewDice(uint64(start)).Fleet() {
			for method := range i.Methods {
				for _, n := range lifted(t, i, method).Nodes {
					seen[n.Name()]++
				}
			}
		}
	}
	for name := range strings.FieldsSeq("const move bin un choose tick goto branch getfield putfield serve call callx ret") {
		if seen[name] < 20 {
			t.Errorf("18.1: %s is seen %d times, too few to tell", name, seen[name])
		}
	}
}

// TestMemory: R2, what is handed in is not turned, its spare room included, and
// not kept; what is answered is new, and no two lists of it share memory.
func TestMemory(t *testing.T) {
	const room = 77
	lines := "applet a; import b 0 pub pub sec; method none; ret; method pub pub sec; locals pub; " +
		"load 0; load 1; callx 0; call 2; push 1; push 2; div; buf 1; push 0; push 0; send 1; jump 12; ret; method none pub; ret"
	i, kept := applet(t, lines), applet(t, lines)
	for _, list := range []*[]int{&i.Imports[0].Params, &i.Methods[1].Params, &i.Methods[1].Locals} {
		*list = append(*list, room)[:len(*list)]
		defer func() {
			if (*list)[:len(*list)+1][len(*list)] != room {
				t.Errorf("R2: %v", *list)
			}
		}()
	}
	i.Methods[1].Code = append(i.Methods[1].Code, api.Instr{Op: room})[:len(i.Methods[1].Code)]
	p, first, _ := lift.Lift(i, 1)
	was := fmt.Sprint(told(p), first)
	lists := [][]int{first}
	for _, n := range p.Nodes {
		switch n := n.(type) {
		case ir.Serve:
			lists = append(lists, n.Args)
		case ir.Call:
			lists = append(lists, n.Args)
		case ir.CallX:
			lists = append(lists, n.Args)
		}
	}
	for n, list := range lists {
		before := fmt.Sprint(slices.Delete(slices.Clone(lists), n, n+1))
		for at := range list[:cap(list)] {
			list[:cap(list)][at] = room
		}
		if behind := fmt.Sprint(slices.Delete(slices.Clone(lists), n, n+1)); behind != before {
			t.Errorf("R2: list %d turns another one: %s, not %s", n, behind, before)
		}
	}
	for at := range p.Nodes[:cap(p.Nodes)] {
		p.Nodes[:cap(p.Nodes)][at] = nil
	}
	if p, first, _ := lift.Lift(i, 1); fmt.Sprint(told(p), first) != was {
		t.Errorf("R4: %v, %v, not %s", told(p), first, was)
	}
	if !image.Same(i, kept) || i.Methods[1].Code[:14][13].Op != room {
		t.Errorf("R2: %+v", i)
	}
}
