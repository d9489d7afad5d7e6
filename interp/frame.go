package interp

import "taciturn/api"

// frame is a method that was called and has not returned. verify sees to it that
// it asks for no more than it has; where an image was not taken, what is not there
// is 0, so that no step can panic.
type frame struct {
	caller             *frame // nil of the first one
	applet, method, pc int
	code               api.Method
	locals, stack      []int32
}

// has tells whether there is an instruction at the pc.
func (f *frame) has() bool {
	return f.pc >= 0 && f.pc < len(f.code.Code)
}

// next answers the instruction at the pc, where there is one.
func (f *frame) next() api.Instr {
	return f.code.Code[f.pc]
}

// push lays a value on the stack.
func (f *frame) push(n int32) {
	f.stack = append(f.stack, n)
}

// pop takes the topmost value off the stack.
func (f *frame) pop() int32 {
	top := len(f.stack) - 1
	if top < 0 {
		return 0
	}
	n := f.stack[top]
	f.stack = f.stack[:top]
	return n
}

// take pops n values, and answers them as they stood: the topmost is the last one.
func (f *frame) take(n int) []int32 {
	all := make([]int32, n)
	for k := range all {
		all[n-1-k] = f.pop()
	}
	return all
}

// local answers where a local stands; of one that is none, a place that nobody
// reads again.
func (f *frame) local(k int) *int32 {
	if k < 0 || k >= len(f.locals) {
		return new(int32)
	}
	return &f.locals[k]
}
