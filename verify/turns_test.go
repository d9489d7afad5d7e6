package verify_test

import (
	"slices"
	"testing"

	"taciturn/api"
	"taciturn/code"
	"taciturn/sample"
	"taciturn/verify"
)

// loads answers rules that lay just these kinds.
func loads(kinds []int) []rule {
	all := []rule(nil)
	for _, kind := range kinds {
		all = append(all, rule{i: api.Instr{Op: code.Load, A: kind - 1}, gives: give(kind)})
	}
	return all
}

// stacks answers all stacks of n kinds.
func stacks(n int) [][]int {
	all := [][]int{nil}
	for range n {
		longer := [][]int(nil)
		for _, stack := range all {
			for _, kind := range suited('?') {
				longer = append(longer, append(slices.Clone(stack), kind))
			}
		}
		all = longer
	}
	return all
}

// checkWalk holds what is told of a method's rules against what walked tells.
func checkWalk(t *testing.T, result int, rules []rule) bool {
	t.Helper()
	i := around(result, rules)
	want, pc, wantE := walked(rules)
	where := verify.Where{}
	if wantE != api.OK {
		where = verify.Where{Method: 1, PC: pc}
	}
	check(t, "rules", i, where, wantE)
	states, ok := verify.States(i, 1)
	if ok && len(states) != len(rules) {
		t.Errorf("7.3: %+v: %v", i.Methods[1].Code, states)
		return false
	}
	for pc, state := range states {
		height := -1
		if _, reached := want[pc]; reached {
			height = len(want[pc])
		}
		if got := verify.Height(i, 1, pc); got != height || !slices.Equal(state, want[pc]) {
			t.Errorf("7.3: %+v: at %d: %v, %d, not %v, %d", i.Methods[1].Code, pc, state, got, want[pc], height)
		}
	}
	return ok
}

// checkRule holds what is told of r behind a stack against the table.
func checkRule(t *testing.T, r rule, stack []int) {
	t.Helper()
	checkWalk(t, 0, slices.Concat(loads(stack), []rule{r, ret(0)}))
}

// TestEveryRule: 7.2, each row behind each stack of as many as it takes, and of
// fewer; and with more below.
func TestEveryRule(t *testing.T) {
	for _, r := range slices.Concat(plain(), named()) {
		for n := range len(r.takes) + 1 {
			for _, stack := range stacks(n) {
				checkRule(t, r, stack)
			}
		}
		for _, stack := range stacks(2) {
			for _, kind := range suited('?') {
				checkRule(t, r, append(slices.Repeat([]int{kind}, len(r.takes)), stack...))
			}
			checkRule(t, r, slices.Repeat(stack, api.MaxStack/2))
			checkRule(t, r, slices.Repeat(stack, api.MaxStack/2)[1:])
		}
	}
}

// TestEveryJump: 7.2, jumpif behind each stack, and what it leaves at both places
// to which it goes.
func TestEveryJump(t *testing.T) {
	for n := range 4 {
		for _, stack := range stacks(n) {
			checkWalk(t, 0, slices.Concat(loads(stack), []rule{jumpIf(n + 2), ret(0), ret(0)}))
			checkWalk(t, 0, slices.Concat(loads(stack), []rule{jump(n + 2), ret(0), ret(0)}))
		}
	}
}

// TestEveryRet: 7.2, each result behind each stack.
func TestEveryRet(t *testing.T) {
	for result := range api.SecArr + 1 {
		for n := range 4 {
			for _, stack := range stacks(n) {
				checkWalk(t, result, append(loads(stack), ret(result)))
			}
		}
	}
}

// TestEveryOp: the tests' own table has each instruction.
func TestEveryOp(t *testing.T) {
	all := slices.Concat(plain(), named(), []rule{jump(0), jumpIf(0), ret(0)})
	for op := code.Push; op <= code.Ret; op++ {
		if !slices.ContainsFunc(all, func(r rule) bool { return r.i.Op == op }) {
			t.Errorf("no row of %s", code.Name(op))
		}
	}
}

// threw answers rules by a rule: mostly such as may stand behind what stands
// above them, among them jumps to anywhere.
func threw(d *sample.Dice, all []rule, result int) []rule {
	rules, stack := []rule(nil), []int{}
	long := 4 + d.UpTo(20)
	for len(rules) < long {
		r := all[d.UpTo(len(all)-1)]
		switch d.UpTo(11) {
		case 0, 1:
			r = jumpIf(d.UpTo(long - 1))
		case 2:
			r = jump(min(long-1, len(rules)+1+d.UpTo(2)))
		case 3:
			r = ret(result)
		case 4, 5, 6:
			r = loads([]int{1 + d.UpTo(3)})[0]
		}
		after, e := r.do(stack)
		if e != api.OK && d.UpTo(60) > 0 {
			continue
		}
		rules, stack = append(rules, r), after
	}
	return append(rules, ret(0))
}

// TestManyTurns: 7.1 and 7.3, codes by a fixed rule, held against a walk that is
// written down apart from the package; and no run of what is taken goes wrong.
func TestManyTurns(t *testing.T) {
	d := sample.NewDice(70)
	all := slices.Concat(plain(), named())
	taken, told := 0, map[api.Errno]int{}
	for range 20000 {
		rules := threw(d, all, 0)
		_, _, e := walked(rules)
		told[e]++
		if checkWalk(t, 0, rules) {
			taken++
			checkRuns(t, d, rules)
		}
	}
	for _, e := range []api.Errno{api.OK, api.ErrStack, api.ErrKind, api.ErrLeak, api.ErrJoin} {
		if told[e] < 100 {
			t.Errorf("only %d of %d", told[e], e)
		}
	}
	if taken < 1000 {
		t.Errorf("only %d were taken", taken)
	}
}

// checkRuns goes through a taken code by its own kinds, without joins, whichever
// way the dice choose: each stack fits the state that is told there.
func checkRuns(t *testing.T, d *sample.Dice, rules []rule) {
	t.Helper()
	states, _ := verify.States(around(0, rules), 1)
	for range 4 {
		stack, pc, e := []int{}, 0, api.OK
		for range 60 {
			if joined, ok := joinedOf(states[pc], stack); !ok || !slices.Equal(joined, states[pc]) {
				t.Errorf("7.3: at %d stands %v, not %v", pc, stack, states[pc])
				return
			}
			r := rules[pc]
			if stack, e = r.do(stack); e != api.OK {
				t.Errorf("7.1: a run of what is taken: %d at %d", e, pc)
				return
			}
			nexts := []int{pc + 1}
			if r.next != nil {
				nexts = r.next(pc, r.i.A)
			}
			if len(nexts) == 0 {
				break
			}
			pc = nexts[d.UpTo(len(nexts)-1)]
		}
	}
}
