package verify_test

import (
	"slices"
	"strings"

	"taciturn/api"
	"taciturn/code"
	"taciturn/image"
)

// Short words for the kinds.
const (
	pubInt = api.PubInt
	secInt = api.SecInt
	pubArr = api.PubArr
	secArr = api.SecArr
)

// rule is a row of 7.2's table for one instruction, written down apart from the
// package.
type rule struct {
	i     api.Instr
	takes string                    // a letter of each, the topmost last: see suited
	alike func(taken []int) bool    // nil: whatever
	leaks func(taken []int) bool    // nil: by no more than its letters
	gives func(taken []int) []int   // nil: nothing
	next  func(pc int, a int) []int // nil: pc + 1
}

// suited answers the kinds that a letter stands for.
func suited(letter rune) []int {
	switch letter {
	case '?':
		return []int{pubInt, secInt, pubArr, secArr}
	case 'i', 'p': // p: public, else it leaks
		return []int{pubInt, secInt}
	case 'a':
		return []int{pubArr, secArr}
	case 'B':
		return []int{pubArr}
	case 'C':
		return []int{secArr}
	}
	return nil
}

// into answers the letter of what may be laid where a kind stands.
func into(kind int) string {
	return string(" piBC"[kind])
}

// intoAll answers the letters of a list of kinds.
func intoAll(kinds []int) string {
	s := ""
	for _, kind := range kinds {
		s += into(kind)
	}
	return s
}

// do does r to a stack, as 7.2 says.
func (r rule) do(stack []int) ([]int, api.Errno) {
	left := len(stack) - len(r.takes)
	if left < 0 {
		return nil, api.ErrStack
	}
	taken, after := stack[left:], slices.Clone(stack[:left])
	if r.gives != nil {
		after = append(after, r.gives(taken)...)
	}
	if len(after) > api.MaxStack {
		return nil, api.ErrStack
	}
	leaks := false
	for at, letter := range r.takes {
		if !slices.Contains(suited(letter), taken[at]) {
			return nil, api.ErrKind
		}
		leaks = leaks || letter == 'p' && taken[at] == secInt
	}
	if r.alike != nil && !r.alike(taken) {
		return nil, api.ErrKind
	}
	if leaks || r.leaks != nil && r.leaks(taken) {
		return nil, api.ErrLeak
	}
	return after, api.OK
}

// give answers a call that gives always the same.
func give(kinds ...int) func([]int) []int {
	return func([]int) []int { return kinds }
}

// secretIf answers a call that gives SecInt where one that is taken is secret.
func secretIf(taken []int) []int {
	if slices.Contains(taken, secInt) || slices.Contains(taken, secArr) {
		return []int{secInt}
	}
	return []int{pubInt}
}

// given answers what a result of a kind gives.
func given(result int) func([]int) []int {
	if result == 0 {
		return nil
	}
	return give(result)
}

// plain answers the rows that name nothing of what stands around them.
func plain() []rule {
	all := []rule{
		{i: api.Instr{Op: code.Push, A: -7}, gives: give(pubInt)},
		{i: api.Instr{Op: code.Pop}, takes: "?"},
		{i: api.Instr{Op: code.Dup}, takes: "?", gives: func(t []int) []int { return []int{t[0], t[0]} }},
		{i: api.Instr{Op: code.Neg}, takes: "i", gives: func(t []int) []int { return t }},
		{i: api.Instr{Op: code.Not}, takes: "i", gives: func(t []int) []int { return t }},
		{i: api.Instr{Op: code.Div}, takes: "pp", gives: give(pubInt)},
		{i: api.Instr{Op: code.Rem}, takes: "pp", gives: give(pubInt)},
		{i: api.Instr{Op: code.Null, A: pubArr}, gives: give(pubArr)},
		{i: api.Instr{Op: code.Null, A: secArr}, gives: give(secArr)},
		{i: api.Instr{Op: code.IsNull}, takes: "a", gives: give(pubInt)},
		{i: api.Instr{Op: code.Len}, takes: "a", gives: give(pubInt)},
		{i: api.Instr{Op: code.New, A: pubArr, B: 1}, takes: "p", gives: give(pubArr)},
		{i: api.Instr{Op: code.New, A: secArr, B: 6}, takes: "p", gives: give(secArr)},
		{i: api.Instr{Op: code.Get}, takes: "ap", gives: func(t []int) []int { return secretIf(t[:1]) }},
		{i: api.Instr{Op: code.Put}, takes: "api", leaks: func(t []int) bool { return t[0] == pubArr && t[2] == secInt }},
		{i: api.Instr{Op: code.Copy}, takes: "apapp", leaks: func(t []int) bool { return t[0] == pubArr && t[2] == secArr }},
		{i: api.Instr{Op: code.Same}, takes: "apapp", gives: secretIf},
		{i: api.Instr{Op: code.Buf, A: 1}, gives: give(pubArr)},
		{i: api.Instr{Op: code.Buf, A: 2}, gives: give(secArr)},
		{i: api.Instr{Op: code.Send, A: 1}, takes: "app", leaks: func(t []int) bool { return t[0] == secArr }},
		{i: api.Instr{Op: code.Send, A: 2}, takes: "app"},
		pick(),
	}
	for _, op := range []int{code.Add, code.Sub, code.Mul, code.And, code.Or, code.Xor, code.Shl, code.Shr, code.Sar, code.Eq, code.Lt, code.Below} {
		all = append(all, rule{i: api.Instr{Op: op}, takes: "ii", gives: secretIf})
	}
	return all
}

// pick answers the row of pick.
func pick() rule {
	return rule{
		i: api.Instr{Op: code.Pick}, takes: "i??",
		alike: func(t []int) bool { return t[1] == t[2] || t[1] <= secInt && t[2] <= secInt },
		leaks: func(t []int) bool { return t[1] >= pubArr && t[0] == secInt },
		gives: func(t []int) []int {
			if t[1] >= pubArr {
				return t[1:2]
			}
			return secretIf(t)
		},
	}
}

// sign is what a method, or an import, takes and gives.
type sign struct {
	params []int
	result int
}

// signs are those of the methods and the imports that stand around.
func signs() []sign {
	return []sign{
		{nil, 0},
		{nil, secInt},
		{[]int{pubInt, secInt, pubArr, secArr}, secArr},
		{[]int{secArr, pubInt}, pubInt},
	}
}

// named answers the rows that name what stands around a method of image.
func named() []rule {
	all := []rule(nil)
	for at, kind := range []int{pubInt, secInt, pubArr, secArr} {
		all = append(all,
			rule{i: api.Instr{Op: code.Load, A: at}, gives: give(kind)},
			rule{i: api.Instr{Op: code.Store, A: at}, takes: into(kind)},
			rule{i: api.Instr{Op: code.GetF, A: at}, gives: give(kind)},
			rule{i: api.Instr{Op: code.PutF, A: at}, takes: into(kind)})
	}
	for at, s := range signs() {
		all = append(all,
			rule{i: api.Instr{Op: code.Call, A: 2 + at}, takes: intoAll(s.params), gives: given(s.result)},
			rule{i: api.Instr{Op: code.CallX, A: at}, takes: intoAll(s.params), gives: given(s.result)})
	}
	return all
}

// jump, jumpIf and ret answer the rows that go on elsewhere.
func jump(to int) rule {
	return rule{i: api.Instr{Op: code.Jump, A: to}, next: func(_, a int) []int { return []int{a} }}
}

func jumpIf(to int) rule {
	return rule{i: api.Instr{Op: code.JumpIf, A: to}, takes: "p", next: func(pc, a int) []int { return []int{pc + 1, a} }}
}

func ret(result int) rule {
	return rule{i: api.Instr{Op: code.Ret}, takes: strings.TrimSpace(into(result)), next: func(int, int) []int { return nil }}
}

// around answers an image whose method 1 has that result, a local of each kind,
// and that code. Its other methods are such as may run.
func around(result int, rules []rule) api.Image {
	i := api.Image{Name: "a", Fields: []int{pubInt, secInt, pubArr, secArr}}
	m := api.Method{Result: result, Locals: []int{pubInt, secInt, pubArr, secArr}}
	for _, r := range rules {
		m.Code = append(m.Code, r.i)
	}
	i.Methods = []api.Method{{Code: []api.Instr{{Op: code.Ret}}}, m}
	for at, s := range signs() {
		i.Imports = append(i.Imports, api.Import{Name: "b", Export: at, Params: s.params, Result: s.result})
		callee := api.Method{Params: s.params, Result: s.result, Code: []api.Instr{{Op: code.Ret}}}
		if s.result != 0 {
			callee.Locals = []int{s.result}
			callee.Code = []api.Instr{{Op: code.Load, A: len(s.params)}, {Op: code.Ret}}
		}
		i.Methods = append(i.Methods, callee)
	}
	if !image.Right(i) {
		panic("not right")
	}
	return i
}

// walked goes over rules as 7.1 says, and answers the states by pc, or the first
// error and its pc.
func walked(rules []rule) (map[int][]int, int, api.Errno) {
	states, toDo := map[int][]int{0: {}}, []int{0}
	for len(toDo) > 0 {
		slices.Sort(toDo)
		pc := toDo[0]
		toDo = slices.DeleteFunc(toDo, func(at int) bool { return at == pc })
		r := rules[pc]
		after, e := r.do(states[pc])
		if e != api.OK {
			return nil, pc, e
		}
		nexts := []int{pc + 1}
		if r.next != nil {
			nexts = r.next(pc, r.i.A)
		}
		for _, next := range nexts {
			if next == len(rules) {
				return nil, pc, api.ErrEnd
			}
			joined, ok := after, true
			was, reached := states[next]
			if reached {
				joined, ok = joinedOf(was, after)
			}
			if !ok {
				return nil, pc, api.ErrJoin
			}
			if !reached || !slices.Equal(was, joined) {
				states[next], toDo = joined, append(toDo, next)
			}
		}
	}
	return states, 0, api.OK
}

// joinedOf answers the joins of two stacks, and whether there are any.
func joinedOf(a, b []int) ([]int, bool) {
	if len(a) != len(b) {
		return nil, false
	}
	all := []int{}
	for at := range a {
		if a[at] != b[at] && max(a[at], b[at]) != secInt {
			return nil, false
		}
		all = append(all, max(a[at], b[at]))
	}
	return all, true
}
