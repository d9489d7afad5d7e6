package verify_test

import (
	"math"
	"slices"
	"strings"
	"testing"

	"taciturn/api"
	"taciturn/code"
	"taciturn/image"
	"taciturn/sample"
	"taciturn/text"
	"taciturn/verify"
)

// parsed answers the image of some lines, which a `; ` parts.
func parsed(t *testing.T, lines string) api.Image {
	t.Helper()
	i, line, e := text.Parse(strings.ReplaceAll(lines, "; ", "\n"))
	if e != api.OK {
		t.Fatalf("5.2: %s: line %d: %d", lines, line, e)
	}
	return i
}

// coded answers an image of one method, which has a local of each kind, and that
// code.
func coded(t *testing.T, lines string) api.Image {
	t.Helper()
	return parsed(t, "applet a; method none; locals pub sec puba seca; "+lines)
}

// check holds what is told of i against what is asked for: by all calls, since
// of what is refused there is no state.
func check(t *testing.T, name string, i api.Image, want verify.Where, wantE api.Errno) {
	t.Helper()
	got, e := verify.Verify(i)
	if got != want || e != wantE {
		t.Errorf("7.1: %s: %+v, %d, not %+v, %d", name, got, e, want, wantE)
	}
	for n := range i.Methods {
		states, ok := verify.States(i, n)
		if ok != (wantE == api.OK) || !ok && states != nil {
			t.Errorf("7.3: %s: States: %v, %t", name, states, ok)
		}
		if at := verify.Height(i, n, 0); (at == 0) != ok || !ok && at != -1 {
			t.Errorf("7.3: %s: Height: %d", name, at)
		}
	}
}

// one is a code, and what is told of it.
type one struct {
	lines string
	e     api.Errno
	pc    int
}

// checkAll holds what is told of codes of method 0 against what is asked for.
func checkAll(t *testing.T, all []one) {
	t.Helper()
	for _, c := range all {
		check(t, c.lines, coded(t, c.lines), verify.Where{PC: c.pc}, c.e)
	}
}

// TestExample: 7.1, the chapter's row.
func TestExample(t *testing.T) {
	checkAll(t, []one{{"buf 2; push 0; get; jumpif 0", api.ErrLeak, 3}})
}

// TestNotRight: 7.1, of what is not right nothing else is told, be its code as it
// may.
func TestNotRight(t *testing.T) {
	turns := []func(i *api.Image){
		func(i *api.Image) { *i = api.Image{} },
		func(i *api.Image) { i.Name = "" },
		func(i *api.Image) { i.Methods = nil },
		func(i *api.Image) { i.Methods = slices.Repeat(i.Methods, api.MaxMethods+1) },
		func(i *api.Image) { i.Methods[0].Code = nil },
		func(i *api.Image) { i.Methods[0].Code = slices.Repeat(i.Methods[0].Code, api.MaxCode+1) },
		func(i *api.Image) { i.Methods[0].Code[0] = api.Instr{} },
		func(i *api.Image) { i.Methods[0].Code[0] = api.Instr{Op: code.Load, A: -1} },
		func(i *api.Image) { i.Methods[0].Code[0] = api.Instr{Op: code.Load, A: api.MaxLocals} },
		func(i *api.Image) { i.Methods[0].Code[0] = api.Instr{Op: code.Jump, A: api.MaxCode} },
		func(i *api.Image) { i.Methods[0].Code[0] = api.Instr{Op: math.MaxInt} },
		func(i *api.Image) { i.Methods[0].Result = pubInt },
		func(i *api.Image) { i.Methods[0].Params = []int{pubInt} },
		func(i *api.Image) { i.Methods[0].Locals = []int{5} },
		func(i *api.Image) { i.Fields = []int{0} },
		func(i *api.Image) { i.Exports = []int{1} },
	}
	for _, lines := range []string{"ret", "pop", "load 9; ret"} {
		for n, turn := range turns {
			i := coded(t, lines)
			turn(&i)
			if image.Right(i) {
				t.Errorf("turn %d is right", n)
			}
			check(t, lines, i, verify.Where{}, api.ErrArg)
		}
	}
}

// TestRange: 7.1, what is named must be there, at each edge; also where nothing
// comes to.
func TestRange(t *testing.T) {
	above := "applet a; field sec; field pub; import b 0 none; import c 3 none; method none; "
	below := "; method none pub sec; locals puba; "
	for lines, want := range map[string]int{
		"load 2; pop; ret": -1, "load 3; pop; ret": 0, "push 1; store 0; ret": -1, "push 1; store 3; ret": 1,
		"load 0; store 1; load 1; store 9; ret": 3, "getf 1; putf 1; ret": -1, "getf 2; pop; ret": 0, "push 1; putf 2; ret": 1,
		"call 0; ret": -1, "call 2; ret": 0, "push 1; dup; call 1; ret": -1, "push 1; dup; call 7; ret": 2,
		"callx 0; callx 1; ret": -1, "callx 0; callx 2; ret": 1, "callx 3; ret": 0,
		"push 1; jumpif 2; ret": -1, "push 1; jumpif 3; ret": 1, "jump 1; ret": -1, "jump 2; ret": 0, "jump 119; ret": 0,
		"ret; load 3": 1, "ret; store 3": 1, "ret; getf 2": 1, "ret; putf 2": 1, "ret; call 2": 1, "ret; callx 2": 1, "ret; jump 3; ret": 1, "ret; ret; jumpif 3": 2,
		"pop; ret; load 3": 2, "pop; load 4; load 3": 1, "load 0; load 3; callx 2": 1,
	} {
		where, e := verify.Where{}, api.OK
		if want >= 0 {
			where, e = verify.Where{Method: 1, PC: want}, api.ErrRange
		}
		check(t, lines, parsed(t, above+"ret"+below+lines), where, e)
	}
}

// TestRangeOfNone: 7.1, where there is nothing to be named.
func TestRangeOfNone(t *testing.T) {
	for _, line := range []string{"load 0", "store 0", "getf 0", "putf 0", "callx 0", "call 1"} {
		i := parsed(t, "applet a; method none; ret; "+line)
		check(t, line, i, verify.Where{PC: 1}, api.ErrRange)
	}
}

// TestMethods: 7.1, method by method, each whole: one that names what is not
// there comes behind one whose walk fails.
func TestMethods(t *testing.T) {
	good, astray, empty := "ret", "ret; load 9", "push 1; pop; pop; ret"
	for _, c := range []struct {
		lines [3]string
		where verify.Where
		e     api.Errno
	}{
		{[3]string{good, good, good}, verify.Where{}, api.OK},
		{[3]string{astray, empty, good}, verify.Where{PC: 1}, api.ErrRange},
		{[3]string{empty, astray, astray}, verify.Where{PC: 2}, api.ErrStack},
		{[3]string{good, astray, empty}, verify.Where{Method: 1, PC: 1}, api.ErrRange},
		{[3]string{good, empty, astray}, verify.Where{Method: 1, PC: 2}, api.ErrStack},
		{[3]string{good, good, astray}, verify.Where{Method: 2, PC: 1}, api.ErrRange},
		{[3]string{good, good, empty}, verify.Where{Method: 2, PC: 2}, api.ErrStack},
	} {
		lines := "applet a; method none; " + strings.Join(c.lines[:], "; method none; ")
		check(t, lines, parsed(t, lines), c.where, c.e)
	}
}

// TestLast: 7.1, the last of eight methods, the last of 120 instructions.
func TestLast(t *testing.T) {
	i := coded(t, "ret")
	long := slices.Repeat([]api.Instr{{Op: code.Push}, {Op: code.Pop}}, api.MaxCode/2)
	for len(i.Methods) < api.MaxMethods {
		i.Methods = append(i.Methods, api.Method{Code: slices.Clone(long)})
		i.Methods[len(i.Methods)-2].Code[len(i.Methods[len(i.Methods)-2].Code)-1] = api.Instr{Op: code.Ret}
	}
	last := verify.Where{Method: api.MaxMethods - 1, PC: api.MaxCode - 1}
	check(t, "long", i, last, api.ErrEnd)
	i.Methods[last.Method].Code[last.PC] = api.Instr{Op: code.Jump, A: last.PC}
	check(t, "long", i, verify.Where{}, api.OK)
	if height := verify.Height(i, last.Method, last.PC); height != 1 {
		t.Errorf("7.3: %d", height)
	}
}

// TestEnd: 7.1, the code's end may not be come to; behind what the instruction
// itself does wrong, and ahead of stacks that can't be joined.
func TestEnd(t *testing.T) {
	checkAll(t, []one{
		{"push 1", api.ErrEnd, 0}, {"push 1; pop", api.ErrEnd, 1}, {"call 0", api.ErrEnd, 0},
		{"push 0; jumpif 0", api.ErrEnd, 1}, {"push 1; jumpif 1", api.ErrEnd, 1}, {"push 1; push 1; jumpif 0", api.ErrEnd, 2},
		{"pop", api.ErrStack, 0}, {"jumpif 0", api.ErrStack, 0}, {"load 2; jumpif 0", api.ErrKind, 1}, {"load 1; jumpif 0", api.ErrLeak, 1},
		{"jump 0", api.OK, 0}, {"ret", api.OK, 0}, {"ret; push 1", api.OK, 0}, {"jump 0; push 1", api.OK, 0},
		{"jump 2; ret; push 0; jumpif 1", api.ErrEnd, 3}, {"jump 2; ret; jump 1", api.OK, 0},
	})
}

// TestFollow: 7.1, which pcs may come next: what is not one of them is not looked
// at, and what is one is.
func TestFollow(t *testing.T) {
	checkAll(t, []one{
		{"ret; pop; ret", api.OK, 0}, {"jump 2; pop; ret", api.OK, 0}, {"jump 1; pop; ret", api.ErrStack, 1},
		{"push 0; jumpif 3; pop; ret", api.ErrStack, 2}, {"push 0; jumpif 3; ret; pop; ret", api.ErrStack, 3},
		{"push 0; jumpif 4; ret; pop; ret", api.OK, 0}, {"push 1; jumpif 2; ret", api.OK, 0}, {"jump 1; jump 2; jump 0", api.OK, 0},
	})
}

// TestLeast: 7.1, the least pc that is to do comes next: of several errors its
// own is the first.
func TestLeast(t *testing.T) {
	checkAll(t, []one{
		{"push 0; jumpif 3; pop; pop; ret", api.ErrStack, 2},
		{"push 0; jumpif 4; push 1; neg; pop", api.ErrJoin, 3},
		{"push 0; jumpif 3; jump 4; neg; pop", api.ErrStack, 3},
		{"jump 4; pop; ret; ret; push 0; jumpif 1; pop", api.ErrStack, 1},
		{"jump 3; ret; pop; push 0; jumpif 1; pop", api.ErrStack, 5},
		{"push 0; store 0; load 1; push 0; jumpif 1; store 2; ret", api.ErrLeak, 1},
		{"push 0; pop; load 1; push 0; jumpif 1; store 2; ret", api.ErrKind, 5},
		{"push 0; jumpif 6; push 0; jumpif 7; load 2; neg; neg; pop", api.ErrKind, 5},
	})
}

// TestJoin: 7.1, what comes to a pc is joined to what is there; where it can't be,
// that is told where it comes from.
func TestJoin(t *testing.T) {
	checkAll(t, []one{
		{"push 0; jumpif 3; push 1; ret", api.ErrJoin, 2}, {"push 0; push 0; jumpif 0; ret", api.ErrJoin, 2},
		{"push 0; push 0; jumpif 1; pop; ret", api.OK, 0}, {"push 0; push 0; push 0; jumpif 1; ret", api.ErrJoin, 3},
		{"push 0; jumpif 4; load 2; jump 5; load 3; pop; ret", api.ErrJoin, 4}, {"push 0; jumpif 4; load 2; jump 5; load 2; pop; ret", api.OK, 0},
		{"push 0; jumpif 4; load 0; jump 5; load 2; pop; ret", api.ErrJoin, 4}, {"push 0; jumpif 4; load 3; jump 5; load 1; pop; ret", api.ErrJoin, 4},
		{"push 0; jumpif 4; load 0; jump 5; load 1; store 0; ret", api.ErrLeak, 5}, {"push 0; jumpif 4; load 1; jump 5; load 0; store 0; ret", api.ErrLeak, 5},
		{"push 0; jumpif 4; load 0; jump 5; load 1; store 1; ret", api.OK, 0}, {"push 0; jumpif 4; load 0; jump 5; load 0; store 0; ret", api.OK, 0},
		{"push 1; jump 0", api.ErrJoin, 1}, {"pop; jump 0", api.ErrStack, 0}, {"load 2; load 3; push 0; jumpif 1; pop; ret", api.ErrJoin, 3},
	})
}

// TestAgain: 7.1, what was done is done again when its state climbs, whatever
// stands between.
func TestAgain(t *testing.T) {
	loop := "load 0; jump 3; ret; neg; dup; pop; load 0; jumpif 9; jump 2; "
	checkAll(t, []one{
		{loop + "pop; load 0; jump 3", api.OK, 0},
		{loop + "pop; load 1; jump 3", api.OK, 0},
		{loop + "pop; load 2; jump 3", api.ErrJoin, 11},
		{"load 0; dup; store 0; load 1; add; jump 1", api.ErrLeak, 2},
		{"load 0; dup; store 1; load 1; add; jump 1", api.OK, 0},
		{"load 0; dup; pop; load 0; add; dup; store 0; load 0; jumpif 0; jump 1", api.ErrJoin, 8},
	})
}

// climbing is a code whose header, pc 3, is come to by three ways: one lays what
// load gives at the bottom, one the bottom in the middle, one the middle on top.
func climbing(load, use string) string {
	return "push 0; push 0; push 0; push 0; jumpif 10; push 0; jumpif 13; push 0; jumpif 18; jump 25; " +
		"pop; dup; jump 3; " +
		"pop; pop; dup; push 0; jump 3; " +
		"pop; pop; pop; " + load + "; push 0; push 0; jump 3; " +
		use + "; ret"
}

// TestClimb: 7.1, a state that climbs one by one, each step made by the last one,
// till all of it is secret.
func TestClimb(t *testing.T) {
	checkAll(t, []one{
		{climbing("load 0", "store 0; store 0; store 0"), api.OK, 0},
		{climbing("load 1", "store 1; store 1; store 1"), api.OK, 0},
		{climbing("load 1", "store 0; store 1; store 1"), api.ErrLeak, 25},
		{climbing("load 1", "store 1; store 0; store 1"), api.ErrLeak, 26},
		{climbing("load 1", "store 1; store 1; store 0"), api.ErrLeak, 27},
		{climbing("load 2", "ret"), api.ErrJoin, 24},
	})
	states, ok := verify.States(coded(t, climbing("load 1", "ret")), 0)
	if !ok || !slices.Equal(states[2], []int{pubInt, pubInt}) || !slices.Equal(states[3], []int{secInt, secInt, secInt}) || !slices.Equal(states[24], []int{secInt, pubInt, pubInt}) {
		t.Errorf("7.3: %v, %t", states, ok)
	}
}

// TestStack: 7.2, at most eight stand there, and no more are taken than do.
func TestStack(t *testing.T) {
	seven := strings.Repeat("push 1; ", api.MaxStack-1)
	full := seven + "push 1; "
	all := []one{{full + "ret", api.OK, 0}, {full + "pop; call 0; ret", api.OK, 0}, {full + "call 0; ret", api.OK, 0}, {full + "add; ret", api.OK, 0}, {full + "jump 0", api.ErrJoin, 8}}
	for _, line := range []string{"push 1", "dup", "load 3", "null 3", "buf 2"} {
		all = append(all, one{seven + line + "; ret", api.OK, 0}, one{full + line + "; ret", api.ErrStack, 8})
	}
	checkAll(t, all)
	for _, line := range []string{"getf 0", "call 1", "callx 0"} {
		lines := "applet a; field sec; import b 0 seca; method none; " + full + line + "; ret; method pub; push 1; ret"
		check(t, lines, parsed(t, lines), verify.Where{PC: 8}, api.ErrStack)
	}
}

// TestKindAhead: 7.2, what is not of the kind that is told comes ahead of what is
// secret, wherever the two stand.
func TestKindAhead(t *testing.T) {
	checkAll(t, []one{
		{"load 1; load 2; div; ret", api.ErrKind, 2}, {"load 2; load 1; div; ret", api.ErrKind, 2},
		{"load 2; load 1; load 2; put; ret", api.ErrKind, 3}, {"load 0; load 1; load 1; put; ret", api.ErrKind, 3},
		{"load 1; load 2; load 3; pick; ret", api.ErrKind, 3}, {"load 2; load 0; load 3; load 1; load 2; copy; ret", api.ErrKind, 5},
		{"load 3; load 2; load 0; send 1; ret", api.ErrKind, 3}, {"load 3; load 1; load 2; send 2; ret", api.ErrKind, 3},
	})
	for lines, e := range map[string]api.Errno{
		"load 0; load 2; call 1; ret": api.ErrLeak, "load 0; load 1; call 1; ret": api.ErrKind, "load 2; load 2; call 1; ret": api.ErrKind,
		"load 0; load 2; callx 0; ret": api.ErrLeak, "load 0; load 1; callx 0; ret": api.ErrKind, "load 2; load 2; callx 0; ret": api.ErrKind,
	} {
		i := parsed(t, "applet a; import b 0 none pub puba; method none; locals sec seca puba; "+lines+"; method none pub puba; ret")
		check(t, lines, i, verify.Where{PC: 2}, e)
	}
}

// TestDeeper: 7.2, what stands below what is taken stays as it is.
func TestDeeper(t *testing.T) {
	i := coded(t, "load 3; load 1; load 2; load 0; load 0; get; add; pop; dup; ret")
	want := [][]int{{}, {4}, {4, 2}, {4, 2, 3}, {4, 2, 3, 1}, {4, 2, 3, 1, 1}}
	check(t, "get", i, verify.Where{PC: 5}, api.ErrKind)
	i.Methods[0].Code[5] = api.Instr{Op: code.Sub}
	i.Methods[0].Code[6] = api.Instr{Op: code.Get}
	want = append(want, []int{4, 2, 3, 1}, []int{4, 2, 1}, []int{4, 2}, []int{4, 2, 2})
	states, ok := verify.States(i, 0)
	if !ok || !slices.EqualFunc(states, want, slices.Equal) {
		t.Errorf("7.2: %v, %t, not %v", states, ok, want)
	}
}

// TestStates: 7.3, each pc of each method, its params ahead of its locals.
func TestStates(t *testing.T) {
	i := parsed(t, "applet a; method none; locals sec; push 0; jumpif 4; push 1; jump 5; load 0; pop; ret; push 9; "+
		"method seca puba sec; locals seca; load 0; load 1; load 2; ret")
	for n, want := range [][][]int{{{}, {1}, {}, {1}, {}, {2}, {}, nil}, {{}, {3}, {3, 2}, {3, 2, 4}}} {
		states, ok := verify.States(i, n)
		if !ok || !slices.EqualFunc(states, want, slices.Equal) {
			t.Errorf("7.3: method %d: %v, %t", n, states, ok)
		}
		for pc, state := range want {
			height := len(state)
			if state == nil {
				height = -1
			}
			if got := verify.Height(i, n, pc); got != height {
				t.Errorf("7.3: Height(%d, %d): %d, not %d", n, pc, got, height)
			}
		}
	}
}

// TestNone: 7.3, methods and pcs that are none; an image is refused whole, be it
// by another method.
func TestNone(t *testing.T) {
	lines := "applet a; method none; push 1; pop; ret; method none; ret"
	good, bad := parsed(t, lines), parsed(t, lines+"; method none; pop; ret")
	for _, n := range []int{math.MinInt, math.MinInt + 1, -2, -1, 2, 3, api.MaxMethods, math.MaxInt} {
		if states, ok := verify.States(good, n); ok || states != nil {
			t.Errorf("7.3: States(%d): %v, %t", n, states, ok)
		}
		for _, pc := range []int{-1, 0, 1, 2, 3} {
			if got := verify.Height(good, n, pc); got != -1 {
				t.Errorf("7.3: Height(%d, %d): %d", n, pc, got)
			}
		}
	}
	for _, pc := range []int{math.MinInt, math.MinInt + 1, -2, -1, 3, 4, api.MaxCode, math.MaxInt} {
		if got := verify.Height(good, 0, pc); got != -1 {
			t.Errorf("7.3: Height(0, %d): %d", pc, got)
		}
	}
	check(t, "good", good, verify.Where{}, api.OK)
	check(t, "bad", bad, verify.Where{Method: 2}, api.ErrStack)
	check(t, "none", api.Image{}, verify.Where{}, api.ErrArg)
	if got := verify.Height(good, 0, 1); got != 1 {
		t.Errorf("7.3: %d", got)
	}
}

// TestMemory: R2, what is handed in is not changed, its spare room included; what
// is answered is new, and no two lists of it share memory.
func TestMemory(t *testing.T) {
	const room = 77
	lines := "applet a; field sec; import b 0 none pub sec; method none; locals pub sec; load 0; load 1; call 1; load 0; load 1; callx 0; push 0; push 0; jumpif 8; ret; ret; method none pub sec; ret"
	i, kept := parsed(t, lines), parsed(t, lines)
	lists := []*[]int{&i.Fields, &i.Imports[0].Params, &i.Methods[0].Locals, &i.Methods[1].Params}
	for _, list := range lists {
		*list = append(*list, room, room)[:len(*list)]
	}
	i.Methods[0].Params = []int{room}[:0]
	check(t, "memory", i, verify.Where{PC: 8}, api.ErrJoin)
	i.Methods[0].Code[8].A, kept.Methods[0].Code[8].A = 10, 10
	check(t, "memory", i, verify.Where{}, api.OK)
	states, _ := verify.States(i, 0)
	for pc, state := range states {
		all, _ := verify.States(i, 0)
		for n, other := range states[pc:] {
			if !slices.Equal(other, all[pc+n]) {
				t.Errorf("R2: the state at %d is turned with another one's: %v", pc+n, other)
			}
		}
		state = state[:cap(state)]
		for at := range state {
			state[at] = room
		}
	}
	for n, list := range lists {
		if behind := (*list)[len(*list):cap(*list)]; behind[0] != room || behind[1] != room {
			t.Errorf("R2: list %d: %v", n, behind)
		}
	}
	if !image.Same(i, kept) || i.Methods[0].Params[:1][0] != room {
		t.Errorf("R2: %+v", i)
	}
}

// TestAnyImage: R1, images by a fixed rule: whatever is told of one, it ends, is
// told again, and the calls agree.
func TestAnyImage(t *testing.T) {
	d := sample.NewDice(7)
	for range 500 {
		i := d.Image()
		where, e := verify.Verify(i)
		check(t, "dice", i, where, e)
		if where.Method >= len(i.Methods) || where.PC >= len(i.Methods[where.Method].Code) {
			t.Errorf("7.1: %+v: %+v, %d", i, where, e)
		}
	}
}
