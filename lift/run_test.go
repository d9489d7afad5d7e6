package lift_test

import (
	"fmt"
	"reflect"
	"slices"
	"strings"
	"testing"

	"taciturn/api"
	"taciturn/interp"
	"taciturn/ir"
	"taciturn/leak"
	"taciturn/lift"
	"taciturn/room"
	"taciturn/sample"
)

// runner does the nodes of a room's applets, and has an interpreter in another
// room go along with it, a step at each Tick.
type runner struct {
	t     *testing.T
	room  *room.Room
	other *interp.Machine
	all   [][]method
	trace *leak.Trace
	fuel  int
	depth int
	seen  map[string]int
}

// method is one of an applet's, lifted.
type method struct {
	program ir.Program
	first   []int
	result  bool
}

// over is the panic by which a runner leaves all its frames at once.
type over int

// methods answers all methods of some applets, lifted.
func methods(t *testing.T, images []api.Image) [][]method {
	t.Helper()
	all := [][]method(nil)
	for _, i := range images {
		own := []method(nil)
		for k, m := range i.Methods {
			p, first, ok := lift.Lift(i, k)
			if !ok {
				t.Fatalf("18.1: method %d is refused: %+v", k, i)
			}
			own = append(own, method{p, first, m.Result != 0})
		}
		all = append(all, own)
	}
	return all
}

// run answers the status with which an applet ends.
func (w *runner) run(applet int) (status int) {
	defer func() {
		was := recover()
		end, ok := was.(over)
		if !ok {
			panic(was)
		}
		status = int(end)
	}()
	w.frame(applet, 0, nil)
	panic(over(api.Fine))
}

// frame does a method's nodes, and answers what it gives. Registers that are no
// params hold anything at first.
func (w *runner) frame(applet, number int, params []int32) int32 {
	w.depth++
	m := w.all[applet][number]
	regs := slices.Repeat([]int32{-77}, m.program.Regs)
	copy(regs, params)
	for at := 0; ; {
		n := m.program.Nodes[at]
		w.seen[n.Name()]++
		if n.Name() == "tick" {
			w.tick(applet, number, slices.Index(m.first, at), regs)
		}
		if ir.Pure(n) {
			regs, at, _ = ir.Eval(m.program, regs, at, 1)
			continue
		}
		if r, ok := n.(ir.Ret); ok {
			w.depth--
			if m.result != (r.Src >= 0) {
				w.t.Fatalf("18.1: %+v of a method with a result: %t", r, m.result)
			}
			if !m.result {
				return 0
			}
			return regs[r.Src]
		}
		given := w.asks(applet, n, regs)
		if dst := ir.Def(n); dst >= 0 {
			regs[dst] = given
		}
		at++
	}
}

// tick holds where the interpreter stands, and its stack, against a Tick at the
// beginning of that pc's nodes, and has it go on.
func (w *runner) tick(applet, number, pc int, regs []int32) {
	a, n, at, stack := w.other.Top()
	if a != applet || n != number || at != pc || w.other.Depth() != w.depth || w.other.Fuel() != w.fuel {
		w.t.Fatalf("18.1: at %d.%d.%d, not %d.%d.%d; %d frames, not %d", applet, number, pc, a, n, at, w.depth, w.other.Depth())
	}
	if !slices.Equal(regs[10:10+len(stack)], stack) {
		w.t.Fatalf("18.1: at %d.%d.%d: %v, not %v", applet, number, pc, regs[10:], stack)
	}
	w.other.Step()
	if w.fuel == 0 {
		panic(over(api.Fuel))
	}
	w.fuel--
}

// asks does a node that is not pure, and answers what it gives.
func (w *runner) asks(applet int, n ir.Node, regs []int32) int32 {
	args := []int32(nil)
	for _, r := range ir.Uses(n) {
		args = append(args, regs[r])
	}
	switch n := n.(type) {
	case ir.GetField:
		v, _ := w.room.Field(applet, n.F)
		return v
	case ir.PutField:
		w.room.SetField(applet, n.F, args[0])
	case ir.Serve:
		v, status := w.room.Serve(w.trace, applet, n.Op, n.A, n.B, args)
		if status != api.Fine {
			panic(over(status))
		}
		return v
	case ir.Call:
		return w.call(applet, n.Method, args)
	case ir.CallX:
		to, k, ok := w.room.Resolve(applet, n.Import)
		if !ok {
			panic(over(api.NoLink))
		}
		return w.call(to, k, args)
	}
	return 0
}

// call begins a frame, and answers what it gives.
func (w *runner) call(applet, number int, args []int32) int32 {
	if w.depth == api.MaxDepth {
		panic(over(api.Deep))
	}
	return w.frame(applet, number, args)
}

// roomOf answers a room with these applets.
func roomOf(t *testing.T, size int, all []api.Image) *room.Room {
	t.Helper()
	r, e := room.New(size)
	if e != api.OK {
		t.Fatalf("12.1: New(%d): %d", size, e)
	}
	for _, i := range all {
		r.Add(i)
	}
	return r
}

// reaches answers what a trace shows of arrays.
func reaches(l *leak.Trace) []api.Event {
	return slices.DeleteFunc(l.All(), func(e api.Event) bool { return e.What != leak.Touch && e.What != leak.Make })
}

// TestBothAlike: W1 and W2, applets by dice whose nodes are done one by one: at
// each Tick the interpreter stands at the same pc, with the same stack; both end
// alike, their rooms too, and what shows of arrays is the same.
func TestBothAlike(t *testing.T) {
	seen := map[string]int{}
	for start := range 500 {
		dice := sample.NewDice(uint64(start) + 1<<20)
		images := dice.Fleet()
		all, size := methods(t, images), 64+dice.UpTo(1500)
		r, other := roomOf(t, size, images), roomOf(t, size, images)
		for range 8 {
			public, secret := dice.Bytes(3+dice.UpTo(4)), dice.Bytes(3+dice.UpTo(4))
			r.Begin(public, secret)
			other.Begin(public, secret)
			applet, fuel := dice.UpTo(len(images)-1), dice.UpTo(700)
			m, _ := interp.New(other, applet, fuel)
			w := runner{t: t, room: r, other: m, all: all, trace: leak.New(), fuel: fuel, seen: seen}
			status := w.run(applet)
			if m.Status() != status || m.Fuel() != w.fuel {
				t.Fatalf("W1: start %d: ends with %x, fuel %d, not %x, %d", start, status, w.fuel, m.Status(), m.Fuel())
			}
			if !reflect.DeepEqual(r, other) || !slices.Equal(w.trace.All(), reaches(m.Trace())) {
				t.Fatalf("W1: start %d: the rooms part, or what shows of them", start)
			}
			seen[fmt.Sprintf("%x", status)]++
		}
	}
	for what := range strings.FieldsSeq("const move bin un choose tick goto branch getfield putfield serve call callx ret 9000 6f01 6f02 6f03 6f05 6f06 6f07 6f08 6f09") {
		if seen[what] < 5 {
			t.Errorf("W1: %s is seen %d times, too few to tell", what, seen[what])
		}
	}
}
