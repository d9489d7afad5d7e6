package sample

import (
	"math"
	"strconv"

	"taciturn/api"
	"taciturn/code"
	"taciturn/verify"
)

// nested is how deep values are made of values, and statements of statements.
const nested = 2

// nobody is a name that no image of these has.
const nobody = "nobody"

// maker makes the code of a method: values that are pushed, and statements that
// leave the stack as it was.
type maker struct {
	dice   *Dice
	image  *api.Image
	number int   // the method's
	kinds  []int // of its locals, params ahead
	code   []api.Instr
}

// Taken answers an image of that name that verify takes, whose code mostly comes
// to its end. It imports what others export, and something that nobody does.
func (d *Dice) Taken(name string, others []api.Image) api.Image {
	for {
		i := d.signed(name, others)
		for n := range i.Methods {
			m := maker{dice: d, image: &i, number: n, kinds: append(append([]int(nil), i.Methods[n].Params...), i.Methods[n].Locals...)}
			i.Methods[n].Code = m.whole()
		}
		if _, e := verify.Verify(i); e == api.OK {
			return i
		}
	}
}

// Fleet answers images, as many as a room may have at most, that verify takes and
// that call one another.
func (d *Dice) Fleet() []api.Image {
	all := []api.Image(nil)
	for k := range 1 + d.UpTo(api.MaxApplets-1) {
		all = append(all, d.Taken("a"+strconv.Itoa(k), all))
	}
	return all
}

// signed answers an image whose methods have no code yet.
func (d *Dice) signed(name string, others []api.Image) api.Image {
	i := api.Image{Name: name, Fields: d.Kinds(6), Methods: []api.Method{{Locals: d.Kinds(api.MaxLocals)}}}
	for range d.UpTo(5) {
		m := api.Method{Params: d.Kinds(api.MaxParams), Result: d.UpTo(api.SecArr)}
		m.Locals = d.Kinds(api.MaxLocals - len(m.Params))
		i.Methods = append(i.Methods, m)
	}
	for n := range 1 + d.UpTo(api.MaxExports-1) {
		i.Exports = append(i.Exports, (n+d.UpTo(1))%len(i.Methods))
	}
	for _, other := range others {
		for range d.UpTo(4) {
			if k := d.UpTo(api.MaxExports - 1); k < len(other.Exports) && len(i.Imports) < api.MaxImports-1 {
				m := other.Methods[other.Exports[k]]
				i.Imports = append(i.Imports, api.Import{Name: other.Name, Export: k, Params: append([]int(nil), m.Params...), Result: m.Result})
			}
		}
	}
	if d.UpTo(2) == 0 {
		i.Imports = append(i.Imports, api.Import{Name: nobody, Params: d.Kinds(2)})
	}
	return i
}

// add lays an instruction behind the others, and answers its pc.
func (m *maker) add(op, a, b int) int {
	m.code = append(m.code, api.Instr{Op: op, A: a, B: b})
	return len(m.code) - 1
}

// land has a jump go to what is added next.
func (m *maker) land(pc int) {
	m.code[pc].A = len(m.code)
}

// rare tells true once in n times.
func (m *maker) rare(n int) bool {
	return m.dice.UpTo(n-1) == 0
}

// any answers one of some numbers.
func (m *maker) any(all ...int) int {
	return all[m.dice.UpTo(len(all)-1)]
}

// having answers where one of the kinds is that kind; -1, where none is.
func (m *maker) having(kinds []int, kind int) int {
	places := []int(nil)
	for k, have := range kinds {
		if have == kind {
			places = append(places, k)
		}
	}
	if len(places) == 0 {
		return -1
	}
	return m.any(places...)
}

// whole answers a method's code: its arrays first, so that most that is done to
// them finds one.
func (m *maker) whole() []api.Instr {
	method := m.image.Methods[m.number]
	for k := len(method.Params); k < len(m.kinds); k++ {
		if m.kinds[k] >= api.PubArr && !m.rare(8) {
			m.array(m.kinds[k])
			m.add(code.Store, k, 0)
		}
	}
	for k, kind := range m.image.Fields {
		if kind >= api.PubArr && m.number == 0 && !m.rare(8) {
			m.array(kind)
			m.add(code.PutF, k, 0)
		}
	}
	for range 1 + m.dice.UpTo(5) {
		m.statement(nested)
	}
	m.returns()
	return m.code
}

// returns adds a ret, and what it takes.
func (m *maker) returns() {
	if kind := m.image.Methods[m.number].Result; kind != 0 {
		m.value(m.under(kind), 1)
	}
	m.add(code.Ret, 0, 0)
}

// under answers a kind whose values fit that one.
func (m *maker) under(kind int) int {
	if kind == api.SecInt && m.rare(3) {
		return api.PubInt
	}
	return kind
}

// array adds what pushes an array that is there.
func (m *maker) array(kind int) {
	if m.rare(2) {
		m.add(code.Buf, kind-api.SecInt, 0)
		return
	}
	if m.rare(60) {
		m.constant()
	} else {
		m.add(code.Push, m.any(4, 4, 5, 8, 0), 0)
	}
	m.add(code.New, kind, m.any(0, 1, 2, 4, 4, 5, 6))
}

// value adds what pushes a value of that kind.
func (m *maker) value(kind, deep int) {
	local, field := m.having(m.kinds, kind), m.having(m.image.Fields, kind)
	switch {
	case deep > 0 && m.rare(2):
		m.nest(kind, deep-1)
	case local >= 0 && m.rare(2):
		m.add(code.Load, local, 0)
	case field >= 0 && m.rare(2):
		m.add(code.GetF, field, 0)
	case kind == api.PubInt:
		m.constant()
	case kind == api.SecInt:
		m.add(code.Buf, 2, 0)
		m.place()
		m.add(code.Get, 0, 0)
	case m.rare(30):
		m.add(code.Null, kind, 0)
	default:
		m.array(kind)
	}
}

// constant adds what pushes a number, mostly a small one.
func (m *maker) constant() {
	m.add(code.Push, m.any(0, 1, 2, 3, 4, 7, 31, 33, 255, 256, -1, -2, math.MinInt32, math.MaxInt32, m.dice.UpTo(math.MaxUint32)+math.MinInt32), 0)
}

// place adds what pushes a number that is in most arrays.
func (m *maker) place() {
	if m.rare(25) {
		m.value(api.PubInt, 1)
		return
	}
	m.add(code.Push, m.dice.UpTo(2), 0)
}

// nest adds what makes a value of that kind of other values.
func (m *maker) nest(kind, deep int) {
	switch m.dice.UpTo(7) {
	case 0:
		m.choice(kind, deep)
	case 1:
		m.asked(kind, deep)
	case 2:
		m.value(api.PubInt, deep)
		m.value(kind, deep)
		m.value(kind, deep)
		m.add(code.Pick, 0, 0)
	default:
		if kind >= api.PubArr {
			m.array(kind)
			return
		}
		m.sum(kind, deep)
	}
}

// choice adds a value by two ways, which meet with it on the stack.
func (m *maker) choice(kind, deep int) {
	m.value(api.PubInt, deep)
	other := m.add(code.JumpIf, 0, 0)
	m.value(kind, deep)
	end := m.add(code.Jump, 0, 0)
	m.land(other)
	m.value(m.under(kind), deep)
	m.land(end)
}

// asked adds a call that has such a result; or a plain value, if there is none.
func (m *maker) asked(kind, deep int) {
	if !m.called(kind, deep) {
		m.value(kind, 0)
	}
}

// called adds a call of something that has such a result (0: none), mostly of a
// method further on, and tells whether there is such a one.
func (m *maker) called(kind, deep int) bool {
	op, k, params := 0, -1, []int(nil)
	for n, method := range m.image.Methods {
		if method.Result == kind && (n > m.number || m.rare(20)) && (k < 0 || m.rare(2)) {
			op, k, params = code.Call, n, method.Params
		}
	}
	for n, other := range m.image.Imports {
		if other.Result == kind && (k < 0 || m.rare(2)) && (other.Name != nobody || m.rare(6)) {
			op, k, params = code.CallX, n, other.Params
		}
	}
	if k < 0 {
		return false
	}
	for _, param := range params {
		m.value(m.under(param), deep)
	}
	m.add(op, k, 0)
	return true
}

// sum adds an int that is made of ints, or of arrays.
func (m *maker) sum(kind, deep int) {
	arr := kind + api.PubArr - api.PubInt
	switch m.dice.UpTo(9) {
	case 0:
		m.value(kind, deep)
		m.add(m.any(code.Neg, code.Not), 0, 0)
	case 1:
		m.value(arr, deep)
		m.place()
		m.add(code.Get, 0, 0)
	case 2:
		m.span(arr, deep)
		m.span(m.any(api.PubArr, arr), deep)
		m.add(code.Push, m.dice.UpTo(2), 0)
		m.add(code.Same, 0, 0)
	case 3:
		m.value(api.PubInt, deep)
		m.value(api.PubInt, deep)
		m.add(m.any(code.Div, code.Rem), 0, 0)
	case 4:
		m.value(m.any(api.PubArr, api.SecArr), deep)
		m.add(m.any(code.Len, code.IsNull), 0, 0)
	default:
		m.value(kind, deep)
		m.value(m.under(kind), deep)
		m.add(m.any(code.Add, code.Sub, code.Mul, code.And, code.Or, code.Xor, code.Shl, code.Shr, code.Sar, code.Eq, code.Lt, code.Below), 0, 0)
	}
}

// span adds an array, and a place in it.
func (m *maker) span(kind, deep int) {
	m.value(kind, deep)
	m.place()
}

// statement adds what leaves the stack as it was.
func (m *maker) statement(deep int) {
	switch m.dice.UpTo(10) {
	case 0, 1:
		m.keep(code.Store, m.kinds, deep)
	case 2:
		m.keep(code.PutF, m.image.Fields, deep)
	case 3:
		m.value(m.any(api.PubInt, api.SecInt, api.PubArr, api.SecArr), deep)
		m.add(code.Dup, 0, 0)
		m.add(code.Pop, 0, 0)
		m.add(code.Pop, 0, 0)
	case 4:
		kind := m.any(api.PubInt, api.SecInt)
		m.span(kind+api.PubArr-api.PubInt, deep)
		m.value(m.under(kind), deep)
		m.add(code.Put, 0, 0)
	case 5:
		kind := m.any(api.PubArr, api.SecArr)
		m.span(kind, deep)
		m.span(m.any(api.PubArr, kind), deep)
		m.add(code.Push, m.dice.UpTo(2), 0)
		m.add(code.Copy, 0, 0)
	case 6:
		to := m.any(1, 2)
		m.span(m.any(api.PubArr, api.SecInt+to), deep)
		m.add(code.Push, m.dice.UpTo(2), 0)
		m.add(code.Send, to, 0)
	case 7, 8:
		kind := m.dice.UpTo(api.SecArr)
		if m.called(kind, deep) && kind != 0 {
			m.add(code.Pop, 0, 0)
		}
	default:
		m.ways(deep)
	}
}

// keep adds a value's being kept in a local, or a field, if there is one.
func (m *maker) keep(op int, kinds []int, deep int) {
	if len(kinds) == 0 {
		return
	}
	k := m.dice.UpTo(len(kinds) - 1)
	m.value(m.under(kinds[k]), deep)
	m.add(op, k, 0)
}

// ways adds statements that are done once, or not, or time and again, or that
// end the method.
func (m *maker) ways(deep int) {
	if deep == 0 {
		return
	}
	local := m.having(m.kinds, api.PubInt)
	switch {
	case m.rare(8):
		m.value(api.PubInt, 1)
		over := m.add(code.JumpIf, 0, 0)
		m.returns()
		m.land(over)
	case m.rare(2) || local < 0:
		m.value(api.PubInt, 1)
		over := m.add(code.JumpIf, 0, 0)
		m.statement(deep - 1)
		m.land(over)
	default:
		m.add(code.Push, m.any(1, 2, 3, 4, 5, 1, 2, 3, 4, 0), 0)
		m.add(code.Store, local, 0)
		start := len(m.code)
		m.statement(deep - 1)
		m.add(code.Load, local, 0)
		m.add(code.Push, 1, 0)
		m.add(code.Sub, 0, 0)
		m.add(code.Dup, 0, 0)
		m.add(code.Store, local, 0)
		m.add(code.JumpIf, start, 0)
	}
}
