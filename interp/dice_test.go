package interp_test

import (
	"bytes"
	"fmt"
	"slices"
	"strings"
	"testing"

	"taciturn/api"
	"taciturn/code"
	"taciturn/interp"
	"taciturn/leak"
	"taciturn/room"
	"taciturn/sample"
	"taciturn/verify"
)

// teller tells what a machine is to do, written down apart: a call of its own for
// each frame, and numbers of 64 bits. The room that it asks is its own.
type teller struct {
	room   *room.Room
	fuel   int
	depth  int
	places []string // where a machine is to stand ahead of each step
	trace  *leak.Trace
}

// over is the panic by which a teller leaves all its calls at once.
type over int

// run answers the status with which a machine is to end.
func (w *teller) run(applet int) (status int) {
	defer func() {
		status = int(recover().(over))
		w.trace.Add(leak.End, status, 0, 0)
	}()
	w.frame(applet, 0, nil)
	panic(over(api.Fine))
}

// frame does a method, and answers its result, as a list of one or none.
func (w *teller) frame(applet, number int, params []int64) []int64 {
	w.depth++
	i, _ := w.room.Image(applet)
	method := i.Methods[number]
	locals, stack := make([]int64, 10), []int64{}
	copy(locals, params)
	cut := func(n int) []int64 {
		all := slices.Clone(stack[len(stack)-n:])
		stack = stack[:len(stack)-n]
		return all
	}
	for pc := 0; ; {
		w.places = append(w.places, fmt.Sprintf("%d: %d.%d.%d%v", w.depth, applet, number, pc, stack))
		if w.fuel == 0 {
			panic(over(api.Fuel))
		}
		w.fuel--
		in := method.Code[pc]
		w.trace.Add(1, applet, 1000*number+pc, in.Op)
		pc++
		name := code.Name(in.Op)
		switch name {
		case "push", "buf":
			stack = append(stack, int64(in.A))
		case "null":
			stack = append(stack, 0)
		case "load":
			stack = append(stack, locals[in.A])
		case "store":
			locals[in.A] = cut(1)[0]
		case "pop":
			cut(1)
		case "dup":
			stack = append(stack, stack[len(stack)-1])
		case "getf":
			n, _ := w.room.Field(applet, in.A)
			stack = append(stack, int64(n))
		case "putf":
			w.room.SetField(applet, in.A, int32(cut(1)[0]))
		case "jump":
			pc = in.A
		case "jumpif":
			if cut(1)[0] != 0 {
				pc = in.A
			}
		case "call":
			stack = append(stack, w.call(applet, in.A, cut)...)
		case "callx":
			to, k, ok := w.room.Resolve(applet, in.A)
			if !ok {
				panic(over(api.NoLink))
			}
			stack = append(stack, w.call(to, k, cut)...)
		case "ret":
			w.depth--
			if method.Result == 0 {
				return nil
			}
			return cut(1)
		default:
			stack = append(stack, w.makes(applet, name, in, cut)...)
		}
	}
}

// call begins a frame, of what stands on its caller's stack.
func (w *teller) call(applet, number int, cut func(int) []int64) []int64 {
	if w.depth == 8 {
		panic(over(api.Deep))
	}
	i, _ := w.room.Image(applet)
	return w.frame(applet, number, cut(len(i.Methods[number].Params)))
}

// makes answers what an instruction makes of values, as a list of one or none.
func (w *teller) makes(applet int, name string, in api.Instr, cut func(int) []int64) []int64 {
	whole := func(n int64) []int64 { return []int64{int64(int32(n))} }
	switch name {
	case "neg":
		return whole(-cut(1)[0])
	case "not":
		return whole(-1 - cut(1)[0])
	case "isnull":
		if cut(1)[0] == 0 {
			return whole(1)
		}
		return whole(0)
	case "pick":
		all := cut(3)
		if all[0] != 0 {
			return whole(all[1])
		}
		return whole(all[2])
	}
	if sum := sums()[name]; sum != nil {
		all := cut(2)
		return whole(sum(all[0], all[1]))
	}
	args := []int32{}
	for _, n := range cut(map[string]int{"div": 2, "rem": 2, "new": 1, "len": 1, "get": 2, "put": 3, "copy": 5, "same": 5, "send": 3}[name]) {
		args = append(args, int32(n))
	}
	n, status := w.room.Serve(w.trace, applet, in.Op, in.A, in.B, args)
	if status != api.Fine {
		panic(over(status))
	}
	if name == "put" || name == "copy" || name == "send" {
		return nil
	}
	return whole(int64(n))
}

// heights answers of each method of each applet how high the stack is at each pc,
// as verify says.
func heights(t *testing.T, all []api.Image) map[[3]int]int {
	t.Helper()
	high := map[[3]int]int{}
	for a, i := range all {
		for n, m := range i.Methods {
			for pc := range m.Code {
				high[[3]int{a, n, pc}] = verify.Height(i, n, pc)
			}
		}
	}
	return high
}

// told answers how a run by dice ended.
type told struct {
	status, depth int
	names         []string // of what was done
}

// follow runs a machine, and holds each step against a teller's.
func follow(t *testing.T, m *interp.Machine, w *teller, applet int, high map[[3]int]int) told {
	t.Helper()
	fuel, deep := w.fuel, 0
	status := w.run(applet)
	for k, place := range w.places {
		a, n, pc, stack := m.Top()
		if got := fmt.Sprintf("%d: %s", m.Depth(), where(m)); got != place {
			t.Fatalf("13.2: step %d: at %s, not %s", k, got, place)
		}
		if len(stack) != high[[3]int{a, n, pc}] {
			t.Errorf("13.3: at %s the stack is not %d high", place, high[[3]int{a, n, pc}])
		}
		if m.Status() != 0 || m.Fuel() != fuel-k {
			t.Fatalf("13.2: step %d: status %x, fuel %d of %d", k, m.Status(), m.Fuel(), fuel)
		}
		deep = max(deep, m.Depth())
		m.Step()
	}
	if len(w.places) > fuel+1 {
		t.Errorf("13.3: %d steps of fuel %d", len(w.places), fuel)
	}
	if m.Status() != status || m.Fuel() != w.fuel || leak.Same(m.Trace(), w.trace) != -1 {
		t.Fatalf("13.2: ended with %x, fuel %d, not %x, %d; what shows parts at %d", m.Status(), m.Fuel(), status, w.fuel, leak.Same(m.Trace(), w.trace))
	}
	d := told{status: status, depth: deep}
	for _, e := range m.Trace().All() {
		if e.What == leak.Step {
			d.names = append(d.names, code.Name(e.C))
		}
	}
	return d
}

// TestByDice: 13.2, 13.3, R4 and W6, applets by a fixed rule that verify takes,
// commanded one behind the other, held step by step against a teller; each
// instruction, each status and the greatest depth is among them.
func TestByDice(t *testing.T) {
	seen := map[string]int{}
	for start := range 500 {
		dice := sample.NewDice(uint64(start))
		all := dice.Fleet()
		high := heights(t, all)
		size := 64 + dice.UpTo(1500)
		r, other := roomOf(t, size, all...), roomOf(t, size, all...)
		for range 8 {
			public, secret := dice.Bytes(3+dice.UpTo(4)), dice.Bytes(3+dice.UpTo(4))
			r.Begin(public, secret)
			other.Begin(public, secret)
			applet, fuel := dice.UpTo(len(all)-1), dice.UpTo(700)
			w := &teller{room: other, fuel: fuel, trace: leak.New()}
			d := follow(t, machine(t, r, applet, fuel), w, applet, high)
			if look(r) != look(other) {
				t.Fatalf("13.2: start %d: the room is %s, not %s", start, look(r), look(other))
			}
			seen[fmt.Sprintf("%x", d.status)]++
			seen[fmt.Sprint(d.depth)]++
			for _, name := range d.names {
				seen[name]++
			}
		}
	}
	wanted := "9000 6f01 6f02 6f03 6f04 6f05 6f06 6f07 6f08 6f09 1 2 3 4 8"
	for op := code.Push; op <= code.Ret; op++ {
		wanted += " " + code.Name(op)
	}
	for what := range strings.FieldsSeq(wanted) {
		if seen[what] < 5 {
			t.Errorf("13.2: %s is seen %d times, too few to tell", what, seen[what])
		}
	}
}

// TestNothingShows: W2, of two rooms that were told the same but for secret bytes,
// as many of them, machines end alike, tell as much in public, and as many secret
// bytes, and show the same.
func TestNothingShows(t *testing.T) {
	parted := 0
	for start := range 1500 {
		dice := sample.NewDice(uint64(start) + 1<<40)
		all := dice.Fleet()
		size := 64 + dice.UpTo(1500)
		r, other := roomOf(t, size, all...), roomOf(t, size, all...)
		for range 3 {
			public, secret := dice.Bytes(3+dice.UpTo(4)), dice.Bytes(3+dice.UpTo(4))
			r.Begin(public, secret)
			other.Begin(public, dice.Bytes(len(secret)))
			applet, fuel := dice.UpTo(len(all)-1), dice.UpTo(500)
			one, two := machine(t, r, applet, fuel), machine(t, other, applet, fuel)
			if one.Run() != two.Run() || one.Fuel() != two.Fuel() || one.Depth() != two.Depth() {
				t.Fatalf("W2: start %d: ends with %x, and with %x", start, one.Status(), two.Status())
			}
			if at := leak.Same(one.Trace(), two.Trace()); at != -1 {
				t.Fatalf("W2: start %d: what shows parts at %d", start, at)
			}
			a, b := r.Told()
			x, y := other.Told()
			if !bytes.Equal(a, x) || len(b) != len(y) {
				t.Fatalf("W2: start %d: %v and %d, %v and %d are told", start, a, len(b), x, len(y))
			}
			if !bytes.Equal(b, y) {
				parted++
			}
		}
	}
	if parted < 50 {
		t.Errorf("W2: the secrets part %d times, too few to tell", parted)
	}
}

// TestRefusedByDice: R1, images that are right, of which verify takes almost none,
// run and end too, and panic nowhere.
func TestRefusedByDice(t *testing.T) {
	for start := range 400 {
		dice := sample.NewDice(uint64(start))
		r := roomOf(t, 100)
		for range 4 {
			r.Add(dice.Image())
		}
		r.Begin(dice.Bytes(5), dice.Bytes(5))
		for k := range 4 {
			fuel := dice.UpTo(300)
			m := machine(t, r, k, fuel)
			for range fuel + 1 {
				where(m)
				m.Step()
			}
			if m.Status() == 0 || m.Depth() > api.MaxDepth || m.Fuel() < 0 {
				t.Errorf("R1: start %d: status %x, depth %d, fuel %d", start, m.Status(), m.Depth(), m.Fuel())
			}
		}
	}
}
