package verify

import (
	"slices"

	"taciturn/api"
	"taciturn/code"
	"taciturn/label"
)

// What an instruction may ask for beside the kinds. Of ints these do: SecInt asks
// for any, since each fits it, and PubInt for one that is public.
const (
	anyKind = -1
	anyArr  = -2
)

// body is a method's code, and what is there for its instructions to name.
type body struct {
	image  api.Image
	locals []int // the params, and the locals behind them
	result int
	code   []api.Instr
}

// bodyOf answers the body of a method of i.
func bodyOf(i api.Image, method int) body {
	m := i.Methods[method]
	return body{image: i, locals: slices.Concat(m.Params, m.Locals), result: m.Result, code: m.Code}
}

// isAstray tells whether i names what is not there.
func (b body) isAstray(i api.Instr) bool {
	switch i.Op {
	case code.Load, code.Store:
		return i.A >= len(b.locals)
	case code.Jump, code.JumpIf:
		return i.A >= len(b.code)
	case code.GetF, code.PutF:
		return i.A >= len(b.image.Fields)
	case code.Call:
		return i.A >= len(b.image.Methods)
	case code.CallX:
		return i.A >= len(b.image.Imports)
	}
	return false
}

// step answers the stack that i, which is not astray, makes of another one; or
// why i may not be done to it.
func (b body) step(i api.Instr, stack []int) ([]int, api.Errno) {
	asked := b.asks(i)
	left := len(stack) - len(asked)
	if left < 0 {
		return nil, api.ErrStack
	}
	taken := stack[left:]
	next := slices.Concat(stack[:left], b.gives(i, taken))
	switch {
	case len(next) > api.MaxStack:
		return nil, api.ErrStack
	case !slices.EqualFunc(taken, asked, suits) || !areAlike(i, taken):
		return nil, api.ErrKind
	case !slices.EqualFunc(taken, asked, isKept) || letsOut(i, taken):
		return nil, api.ErrLeak
	}
	return next, api.OK
}

// asks answers what i asks for, the topmost last.
func (b body) asks(i api.Instr) []int {
	switch i.Op {
	case code.Store:
		return one(b.locals[i.A])
	case code.PutF:
		return one(b.image.Fields[i.A])
	case code.Call:
		return b.image.Methods[i.A].Params
	case code.CallX:
		return b.image.Imports[i.A].Params
	case code.Ret:
		return one(b.result)
	}
	return asksAlways(i.Op)
}

// asksAlways answers what an instruction asks for where that does not hang on
// what it names.
func asksAlways(op int) []int {
	switch op {
	case code.Pop, code.Dup:
		return []int{anyKind}
	case code.Add, code.Sub, code.Mul, code.And, code.Or, code.Xor, code.Shl, code.Shr, code.Sar,
		code.Eq, code.Lt, code.Below:
		return []int{api.SecInt, api.SecInt}
	case code.Neg, code.Not:
		return []int{api.SecInt}
	case code.Div, code.Rem:
		return []int{api.PubInt, api.PubInt}
	case code.Pick:
		return []int{api.SecInt, anyKind, anyKind}
	case code.JumpIf, code.New:
		return []int{api.PubInt}
	case code.IsNull, code.Len:
		return []int{anyArr}
	case code.Get:
		return []int{anyArr, api.PubInt}
	case code.Put:
		return []int{anyArr, api.PubInt, api.SecInt}
	case code.Copy, code.Same:
		return []int{anyArr, api.PubInt, anyArr, api.PubInt, api.PubInt}
	case code.Send:
		return []int{anyArr, api.PubInt, api.PubInt}
	}
	return nil
}

// gives answers what i gives for what it took. How many these are does not hang
// on what was taken, which may be of kinds that don't do.
func (b body) gives(i api.Instr, taken []int) []int {
	switch i.Op {
	case code.Push, code.Div, code.Rem, code.IsNull, code.Len:
		return one(api.PubInt)
	case code.Load:
		return one(b.locals[i.A])
	case code.Dup:
		return []int{taken[0], taken[0]}
	case code.Add, code.Sub, code.Mul, code.And, code.Or, code.Xor, code.Shl, code.Shr, code.Sar,
		code.Eq, code.Lt, code.Below:
		return []int{label.Both(taken[0], taken[1])}
	case code.Neg, code.Not:
		return []int{taken[0]}
	case code.Pick:
		return []int{picked(taken)}
	case code.Null, code.New:
		return one(i.A)
	case code.Get:
		return []int{label.Of(taken[0])}
	case code.Same:
		return []int{label.Both(label.Of(taken[0]), label.Of(taken[2]))}
	case code.GetF:
		return one(b.image.Fields[i.A])
	case code.Buf:
		return one(buffer(i.A))
	case code.Call:
		return one(b.image.Methods[i.A].Result)
	case code.CallX:
		return one(b.image.Imports[i.A].Result)
	}
	return nil
}

// one answers a list of one kind; none of 0, which is no result.
func one(kind int) []int {
	if kind == 0 {
		return nil
	}
	return []int{kind}
}

// picked answers the kind of what Pick chooses. Of ints it hangs on the first one
// as well, which shows in which of the others it is.
func picked(taken []int) int {
	kind, _ := label.Join(taken[1], taken[2])
	if label.IsInt(kind) {
		return label.Both(taken[0], kind)
	}
	return kind
}

// buffer answers the kind of the card's buffer that Buf's or Send's A tells.
func buffer(a int) int {
	if a == 1 {
		return api.PubArr
	}
	return api.SecArr
}

// suits tells whether a kind is of those that are asked for, be it secret or not.
func suits(kind, asked int) bool {
	switch asked {
	case anyKind:
		return true
	case anyArr:
		return label.IsArr(kind)
	}
	return label.Fits(kind, asked) || label.IsInt(kind) && label.IsInt(asked)
}

// isKept tells whether a kind that suits is not secret where a public one is asked
// for.
func isKept(kind, asked int) bool {
	return asked != api.PubInt || !label.IsSecret(kind)
}

// areAlike tells whether the two of which Pick chooses may be chosen between.
func areAlike(i api.Instr, taken []int) bool {
	if i.Op != code.Pick {
		return true
	}
	_, ok := label.Join(taken[1], taken[2])
	return ok
}

// letsOut tells whether i would let something secret out by where it brings it: a
// public array, the public answer, or a choice between arrays, which shows in the
// place of each later touch.
func letsOut(i api.Instr, taken []int) bool {
	switch i.Op {
	case code.Pick:
		return label.IsArr(taken[1]) && label.IsSecret(taken[0])
	case code.Put:
		return !label.Fits(taken[2], label.Of(taken[0]))
	case code.Copy:
		return !label.Fits(label.Of(taken[2]), label.Of(taken[0]))
	case code.Send:
		return !label.Fits(label.Of(taken[0]), label.Of(buffer(i.A)))
	}
	return false
}
