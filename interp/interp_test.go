package interp_test

import (
	"fmt"
	"math"
	"slices"
	"strings"
	"testing"

	"taciturn/api"
	"taciturn/interp"
	"taciturn/leak"
	"taciturn/room"
	"taciturn/text"
	"taciturn/verify"
)

// applet answers the image of some lines, parted by line feeds or semicolons,
// which verify takes.
func applet(t *testing.T, lines ...string) api.Image {
	t.Helper()
	i, n, e := text.Parse(strings.ReplaceAll(strings.Join(lines, "\n"), ";", "\n"))
	if e != api.OK {
		t.Fatalf("line %d of %q is none: %d", n, lines, e)
	}
	if w, e := verify.Verify(i); e != api.OK {
		t.Fatalf("verify refuses %q: %d at %+v", lines, e, w)
	}
	return i
}

// roomOf answers a room with these applets.
func roomOf(t *testing.T, size int, all ...api.Image) *room.Room {
	t.Helper()
	r, e := room.New(size)
	if e != api.OK {
		t.Fatalf("12.1: New(%d): %d", size, e)
	}
	for k, i := range all {
		if n, ok := r.Add(i); n != k || !ok {
			t.Fatalf("12.1: Add: %d, %t", n, ok)
		}
	}
	return r
}

// machine answers a new one.
func machine(t *testing.T, r *room.Room, applet, fuel int) *interp.Machine {
	t.Helper()
	m, e := interp.New(r, applet, fuel)
	if e != api.OK || m == nil {
		t.Fatalf("13.1: New(.., %d, %d): %v, %d", applet, fuel, m, e)
	}
	return m
}

// where tells where a machine stands: applet, method, pc and stack.
func where(m *interp.Machine) string {
	applet, method, pc, stack := m.Top()
	return fmt.Sprintf("%d.%d.%d%v", applet, method, pc, stack)
}

// walk runs a machine, and tells where it stood ahead of each step, and how it
// ended.
func walk(m *interp.Machine) string {
	s := ""
	for m.Status() == 0 {
		s += where(m) + " "
		m.Step()
	}
	return s + fmt.Sprintf("%x", m.Status())
}

// path tells the same, without what stands ahead of each place.
func path(m *interp.Machine, ahead string) string {
	return strings.ReplaceAll(" "+walk(m), " "+ahead, " ")[1:]
}

// shows tells what is in a trace.
func shows(l *leak.Trace) string {
	s := strings.Builder{}
	for _, e := range l.All() {
		fmt.Fprintf(&s, "[%d %d %d %d]", e.What, e.A, e.B, e.C)
	}
	return s.String()
}

// look tells all that is in a room.
func look(r *room.Room) string {
	s := fmt.Sprintf("%d applets, heap %d", r.Count(), r.Heap().Used())
	for k := range r.Count() {
		i, _ := r.Image(k)
		s += fmt.Sprintf("\n%v", i)
		for n := range i.Fields {
			v, _ := r.Field(k, n)
			s += fmt.Sprintf(" %d", v)
		}
	}
	for ref := 1; ref <= r.Heap().Count(); ref++ {
		a, _ := r.Heap().Array(ref)
		s += fmt.Sprintf("\n%d %v", ref, a)
	}
	public, secret := r.Told()
	return s + fmt.Sprintf("\n%v %v", public, secret)
}

// ended holds all that is promised of a machine that ended with a status.
func ended(t *testing.T, what string, m *interp.Machine, r *room.Room, status, fuel, depth int) {
	t.Helper()
	was, room := m.Trace().All(), look(r)
	if m.Status() != status || m.Fuel() != fuel || m.Depth() != depth {
		t.Errorf("13.1: %s: status %x, fuel %d, depth %d, not %x, %d, %d", what, m.Status(), m.Fuel(), m.Depth(), status, fuel, depth)
	}
	if e, ok := m.Trace().At(len(was) - 1); !ok || e != (api.Event{What: leak.End, A: status}) {
		t.Errorf("13.2: %s: the trace ends with %+v", what, e)
	}
	if where(m) != "-1.-1.-1[]" {
		t.Errorf("13.2: %s: Top of what does not run: %s", what, where(m))
	}
	for _, do := range []func() int{m.Step, m.Run, m.Step} {
		if got := do(); got != status {
			t.Errorf("13.2: %s: a step behind the end: %x", what, got)
		}
	}
	if m.Status() != status || m.Fuel() != fuel || m.Depth() != depth || !slices.Equal(m.Trace().All(), was) || look(r) != room {
		t.Errorf("13.2: %s: a step behind the end turns something: %x, %d, %d, %d events", what, m.Status(), m.Fuel(), m.Depth(), m.Trace().Len())
	}
}

// far are numbers that nothing has, though some have the lowest bits of one that
// there is.
func far() []int {
	return []int{math.MinInt, math.MinInt + 1, -1 << 32, -1<<32 + 1, -1 << 8, -2, -1, 1 << 32, 1<<32 + 1, 1<<40 + 1, math.MaxInt}
}

// TestNew: 13.1, a machine of one frame: that applet's method 0 at pc 0, nothing on
// the stack, an empty trace; it runs, and has done nothing yet.
func TestNew(t *testing.T) {
	r := roomOf(t, 100, applet(t, "applet a;field pub;method none;push 5;putf 0;ret"), applet(t, "applet b;method none;ret;method pub;push 1;ret"),
		applet(t, "applet c;method none;ret"), applet(t, "applet a;method none;ret"))
	r.Begin([]byte{1}, []byte{2})
	was := look(r)
	for k := range 4 {
		for _, fuel := range []int{0, 1, 99, api.MaxFuel - 1, api.MaxFuel} {
			m := machine(t, r, k, fuel)
			if m.Status() != 0 || m.Fuel() != fuel || m.Depth() != 1 || m.Trace() == nil || m.Trace().Len() != 0 {
				t.Errorf("13.1: New(.., %d, %d): status %x, fuel %d, depth %d, trace %s", k, fuel, m.Status(), m.Fuel(), m.Depth(), shows(m.Trace()))
			}
			if want := fmt.Sprintf("%d.0.0[]", k); where(m) != want {
				t.Errorf("13.1: New(.., %d, %d): at %s, not %s", k, fuel, where(m), want)
			}
		}
	}
	if look(r) != was {
		t.Errorf("13.1: New turns %s to %s", was, look(r))
	}
}

// TestNewLocals: 13.1, all locals are 0, in each machine anew.
func TestNewLocals(t *testing.T) {
	lines := "applet a;method none;locals pub sec puba seca pub pub pub pub pub sec"
	for k := range api.MaxLocals {
		lines += fmt.Sprintf(";load %d;pop", k)
	}
	r := roomOf(t, 100, applet(t, lines+";push 7;store 0;push 7;store 1;buf 1;store 2;buf 2;store 3;push 7;store 9;ret"))
	want := ""
	for k := range api.MaxLocals {
		want += fmt.Sprintf("0.0.%d[] 0.0.%d[0] ", 2*k, 2*k+1)
	}
	for range 2 {
		if got := walk(machine(t, r, 0, 99)); !strings.HasPrefix(got, want) {
			t.Errorf("13.1: new locals: %s, not %s", got, want)
		}
	}
}

// TestNewRefuses: 13.1 and R5, ErrArg, and no machine, if the room is nil, there is
// no such applet, or fuel is not 0 to MaxFuel.
func TestNewRefuses(t *testing.T) {
	r := roomOf(t, 100, applet(t, "applet a;method none;ret"), applet(t, "applet b;method none;ret"))
	was := look(r)
	refused := func(r *room.Room, applet, fuel int) {
		if m, e := interp.New(r, applet, fuel); m != nil || e != api.ErrArg {
			t.Errorf("13.1: New(%v, %d, %d): %v, %d", r, applet, fuel, m, e)
		}
	}
	for _, k := range append(far(), 2, 3, 4) {
		refused(r, k, 5)
		refused(roomOf(t, 100), k, 5)
		refused(nil, k, 5)
	}
	for _, fuel := range append(far(), api.MaxFuel+1) {
		refused(r, 0, fuel)
		refused(r, 2, fuel)
		refused(nil, 0, fuel)
	}
	refused(nil, 0, 5)
	refused(roomOf(t, 100), 0, 5)
	if look(r) != was {
		t.Errorf("R3: a New that is refused turns %s to %s", was, look(r))
	}
	machine(t, r, 1, 5)
}

// TestExample: 13, the chapter's example, and all that shows of it.
func TestExample(t *testing.T) {
	r := roomOf(t, 100, applet(t, "applet a;method none;push 1;push 0;div;pop;ret"))
	m := machine(t, r, 0, 10)
	if got := walk(m); got != "0.0.0[] 0.0.1[1] 0.0.2[1 0] 6f03" || m.Status() != api.Divide {
		t.Errorf("13: the example: %s", got)
	}
	if got := shows(m.Trace()); got != "[1 0 0 1][1 0 1 1][1 0 2 17][5 28419 0 0]" {
		t.Errorf("13.2: the example shows %s", got)
	}
	ended(t, "the example", m, r, api.Divide, 7, 1)
}

// TestStatus: 13.1, Status, and what Step answers, is 0 while it runs, then Fine.
func TestStatus(t *testing.T) {
	r := roomOf(t, 100, applet(t, "applet a;method none;push 1;call 1;ret;method none pub;load 0;pop;ret"))
	m := machine(t, r, 0, 10)
	for k, want := range []int{0, 0, 0, 0, 0, api.Fine} {
		if m.Status() != 0 || m.Fuel() != 10-k {
			t.Errorf("13.1: ahead of step %d: status %x, fuel %d", k, m.Status(), m.Fuel())
		}
		if got := m.Step(); got != want || m.Status() != want {
			t.Errorf("13.1: step %d: %x, status %x, not %x", k, got, m.Status(), want)
		}
	}
	ended(t, "ret", m, r, api.Fine, 4, 0)
}

// TestFuel: 13.2, Fuel where none is left, and nothing else is done: no more is
// taken, or shows, than was; just enough is enough.
func TestFuel(t *testing.T) {
	i := applet(t, "applet a;field pub;method none;push 7;putf 0;push 8;putf 0;ret")
	for fuel, want := range []int32{0, 0, 7, 7, 8, 8} {
		r := roomOf(t, 100, i)
		m := machine(t, r, 0, fuel)
		status, left := api.Fuel, 0
		trace := []string{"[1 0 0 1]", "[1 0 1 34]", "[1 0 2 1]", "[1 0 3 34]", "[1 0 4 39]"}[:fuel]
		if fuel == 5 {
			status = api.Fine
		}
		if got := m.Run(); got != status {
			t.Errorf("13.2: fuel %d: %x", fuel, got)
		}
		if n, _ := r.Field(0, 0); n != want {
			t.Errorf("13.2: fuel %d: the field is %d, not %d", fuel, n, want)
		}
		if got, want := shows(m.Trace()), strings.Join(trace, "")+fmt.Sprintf("[5 %d 0 0]", status); got != want {
			t.Errorf("13.2: fuel %d: shows %s, not %s", fuel, got, want)
		}
		depth := 1
		if status == api.Fine {
			depth = 0
		}
		ended(t, fmt.Sprint("fuel ", fuel), m, r, status, left, depth)
	}
}

// TestFuelFirst: 13.2, where no fuel is left it is Fuel, whatever stands at the pc.
func TestFuelFirst(t *testing.T) {
	for _, lines := range []string{"ret", "push 1;push 0;div;pop;ret", "null 3;len;pop;ret", "push 99;new 3 0;pop;ret", "push 1;call 1;ret", "callx 0;ret"} {
		i := applet(t, "applet a;import no 0 none;method none", lines, "method none pub;push 0;push 0;rem;pop;ret")
		for fuel := range 5 {
			r := roomOf(t, 100, i)
			m := machine(t, r, 0, fuel)
			for k := range fuel {
				if m.Status() != 0 {
					break
				}
				if m.Step(); m.Fuel() != fuel-k-1 {
					t.Errorf("13.2: %s: fuel %d behind %d steps of %d", lines, m.Fuel(), k+1, fuel)
				}
			}
			if m.Status() != 0 {
				continue
			}
			depth, was := m.Depth(), shows(m.Trace())
			if got := m.Step(); got != api.Fuel || shows(m.Trace()) != was+fmt.Sprintf("[5 %d 0 0]", api.Fuel) {
				t.Errorf("13.2: %s, fuel %d: %x, shows %s", lines, fuel, got, shows(m.Trace()))
			}
			ended(t, lines, m, r, api.Fuel, 0, depth)
		}
	}
}

// TestLongest: 13.2, 13.3 and W6, what would go on for ever ends with Fuel behind
// MaxFuel steps, each of which is in the trace, and the end too.
func TestLongest(t *testing.T) {
	for lines, want := range map[string]struct{ touches, depth int }{
		"jump 0":                     {0, 1},
		"buf 1;len;pop;jump 0":       {api.MaxFuel / 4, 1},
		"call 1;jump 0":              {0, 2},
		"null 4;isnull;jumpif 0;ret": {0, 1},
	} {
		r := roomOf(t, 100, applet(t, "applet a;method none", lines, "method none;ret"))
		m := machine(t, r, 0, api.MaxFuel)
		steps := 0
		for m.Status() == 0 {
			steps++
			m.Step()
		}
		kinds := map[int]int{}
		for _, e := range m.Trace().All() {
			kinds[e.What]++
		}
		if steps != api.MaxFuel+1 || kinds[leak.Step] != api.MaxFuel || kinds[leak.Touch] != want.touches || kinds[leak.End] != 1 || kinds[leak.Make] != 0 {
			t.Errorf("13.3: %s: %d steps, %v", lines, steps, kinds)
		}
		ended(t, lines, m, r, api.Fuel, 0, want.depth)
	}
}

// TestRun: 13.2, Run steps while it runs, from wherever that is, as Step alone does.
func TestRun(t *testing.T) {
	i := applet(t, "applet a;field pub;method none;locals pub;push 3;store 0;getf 0;load 0;call 1;putf 0;load 0;push 1;sub;dup;store 0;jumpif 2;ret;method pub pub pub;load 0;load 1;add;ret")
	for _, fuel := range []int{0, 1, 17, 30, 44, 45, 99} {
		one, want := roomOf(t, 100, i), roomOf(t, 100, i)
		a := machine(t, want, 0, fuel)
		walk(a)
		for ahead := range 50 {
			one = roomOf(t, 100, i)
			b := machine(t, one, 0, fuel)
			for range ahead {
				b.Step()
			}
			if got := b.Run(); got != a.Status() || b.Status() != got || b.Fuel() != a.Fuel() || b.Depth() != a.Depth() || shows(a.Trace()) != shows(b.Trace()) || look(one) != look(want) {
				t.Errorf("13.2: Run of fuel %d behind %d steps: %x, not %x", fuel, ahead, got, a.Status())
			}
		}
	}
}

// TestTop: 13.2 and R2, Top's stack is new memory, spare room too, and what is done
// to it is not done to the machine.
func TestTop(t *testing.T) {
	r := roomOf(t, 100, applet(t, "applet a;method none;push 1;push 2;push 3;push 4;pop;pop;pop;pop;ret"))
	m := machine(t, r, 0, 99)
	want := []string{"[]", "[1]", "[1 2]", "[1 2 3]", "[1 2 3 4]", "[1 2 3]", "[1 2]", "[1]", "[]"}
	kept := [][]int32{}
	for k, s := range want {
		_, _, _, one := m.Top()
		_, _, pc, other := m.Top()
		whole := one[:cap(one)]
		for at := range whole {
			whole[at] = 77
		}
		if fmt.Sprint(other) != s || pc != k || slices.Contains(other[:cap(other)], 77) {
			t.Errorf("13.2: Top at %d: %d, %v, not %s", k, pc, other[:cap(other)], s)
		}
		kept = append(kept, other)
		m.Step()
	}
	for k, s := range want {
		if fmt.Sprint(kept[k]) != s {
			t.Errorf("R2: a stack that Top answered was turned to %v from %s", kept[k], s)
		}
	}
}

// TestTrace: 13.1, 13.2, what shows is in the machine's trace as it is done, also in
// one that was asked for ahead of it.
func TestTrace(t *testing.T) {
	r := roomOf(t, 100, applet(t, "applet b;method none;ret"), applet(t, "applet a;method none;locals sec;buf 2;push 1;get;store 0;push 6;call 1;pop;push 2;new 4 5;pop;ret;method pub pub;load 0;jumpif 4;push 5;ret;load 0;ret"))
	r.Begin(nil, []byte{5, 6})
	m := machine(t, r, 1, 99)
	trace := m.Trace()
	want := []string{"[1 1 0 35]", "[1 1 1 1]", "[1 1 2 29][2 2 1 1]", "[1 1 3 3]", "[1 1 4 1]", "[1 1 5 37]", "[1 1 1000 2]", "[1 1 1001 24]", "[1 1 1004 2]", "[1 1 1005 39]",
		"[1 1 6 4]", "[1 1 7 1]", "[1 1 8 27][3 4 5 2]", "[1 1 9 4]", "[1 1 10 39][5 36864 0 0]"}
	all := ""
	for k, s := range want {
		m.Step()
		all += s
		if got := shows(trace); got != all || leak.Same(trace, m.Trace()) != -1 {
			t.Errorf("13.2: behind step %d it shows %s, not %s", k, got, all)
		}
	}
	ended(t, "what shows", m, r, api.Fine, 84, 0)
}

// TestApart: R4 and R7, machines know nothing of one another, be they of one room or
// of two; what they leave in a room stays there.
func TestApart(t *testing.T) {
	i := applet(t, "applet a;field pub;method none;locals pub;load 0;push 1;add;store 0;getf 0;load 0;add;putf 0;getf 0;push 5;lt;jumpif 0;ret")
	want := walk(machine(t, roomOf(t, 100, i), 0, 99))
	r, other := roomOf(t, 100, i), roomOf(t, 100, i)
	a, b := machine(t, r, 0, 99), machine(t, other, 0, 99)
	one, two := "", ""
	for a.Status() == 0 {
		one, two = one+where(a)+" ", two+where(b)+" "
		a.Step()
		b.Step()
	}
	one, two = fmt.Sprintf("%s%x", one, a.Status()), fmt.Sprintf("%s%x", two, b.Status())
	if one != want || two != want || leak.Same(a.Trace(), b.Trace()) != -1 || look(r) != look(other) {
		t.Errorf("R7: %s, and %s, not %s", one, two, want)
	}
	n, _ := r.Field(0, 0)
	c, d := machine(t, r, 0, 99), machine(t, r, 0, 99)
	for range 4 {
		c.Step()
	}
	if where(d) != "0.0.0[]" || d.Fuel() != 99 || d.Trace().Len() != 0 || c.Trace().Len() != 4 {
		t.Errorf("R7: a step of one machine turns another one: %s", where(d))
	}
	c.Run()
	d.Run()
	if now, _ := r.Field(0, 0); n != 6 || now != 8 || a.Trace().Len() == c.Trace().Len() {
		t.Errorf("13.2: the field was %d, and is %d", n, now)
	}
}

// TestLive: 13.2, what is done to the room between two steps is there for the next
// one: fields, arrays, and applets that were not there at first.
func TestLive(t *testing.T) {
	r := roomOf(t, 100, applet(t, "applet a;field pub;import b 0 pub;method none;getf 0;pop;buf 1;push 0;get;pop;callx 0;pop;ret"))
	m := machine(t, r, 0, 99)
	r.SetField(0, 0, -5)
	m.Step()
	if got := where(m); got != "0.0.1[-5]" {
		t.Errorf("13.2: getf: %s", got)
	}
	for range 3 {
		m.Step()
	}
	r.Begin([]byte{200}, nil)
	m.Step()
	if got := where(m); got != "0.0.5[200]" {
		t.Errorf("13.2: get: %s", got)
	}
	m.Step()
	r.Add(applet(t, "applet b;method none;ret;method pub;push 9;ret;export 1"))
	if got := walk(m); got != "0.0.6[] 1.1.0[] 1.1.1[9] 0.0.7[9] 0.0.8[] 9000" {
		t.Errorf("13.2: callx: %s", got)
	}
}
