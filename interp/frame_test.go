package interp_test

import (
	"fmt"
	"strings"
	"testing"

	"taciturn/api"
)

// TestCall: 13.2, a call's params are the topmost values, the topmost the last one;
// what stands below them stays for the ret, which pushes the result.
func TestCall(t *testing.T) {
	r := roomOf(t, 100, applet(t, "applet a;method none;push 9;push 1;push 2;push 3;push 4;call 2;pop;pop;ret;method none;ret;"+
		"method pub pub pub pub pub;load 0;load 1;load 2;load 3;pop;pop;pop;ret"))
	m := machine(t, r, 0, 99)
	want := "0.0.0[] 0.0.1[9] 0.0.2[9 1] 0.0.3[9 1 2] 0.0.4[9 1 2 3] 0.0.5[9 1 2 3 4] " +
		"0.2.0[] 0.2.1[1] 0.2.2[1 2] 0.2.3[1 2 3] 0.2.4[1 2 3 4] 0.2.5[1 2 3] 0.2.6[1 2] 0.2.7[1] 0.0.6[9 1] 0.0.7[9] 0.0.8[] 9000"
	if got := walk(m); got != want {
		t.Errorf("13.2: %s, not %s", got, want)
	}
	if got := shows(m.Trace()); !strings.Contains(got, "[1 0 5 37][1 0 2000 2][1 0 2001 2]") || !strings.Contains(got, "[1 0 2007 39][1 0 6 4]") {
		t.Errorf("13.2: a call shows %s", got)
	}
	ended(t, "a call", m, r, api.Fine, 99-17, 0)
}

// TestCallLocals: 13.2, a frame's locals but its params are 0, each time anew, and
// nobody else's.
func TestCallLocals(t *testing.T) {
	r := roomOf(t, 100, applet(t, "applet a;method none;locals pub pub;push 5;store 0;push 6;store 1;push 1;call 1;push 2;call 1;load 0;load 1;ret;"+
		"method none pub;locals pub sec;load 0;load 1;load 2;pop;pop;pop;push 8;store 0;push 8;store 1;push 8;store 2;ret"))
	got := walk(machine(t, r, 0, 99))
	for _, want := range []string{"0.1.0[] 0.1.1[1] 0.1.2[1 0] 0.1.3[1 0 0] ", "0.1.0[] 0.1.1[2] 0.1.2[2 0] 0.1.3[2 0 0] ", "0.0.8[] 0.0.9[5] 0.0.10[5 6] 9000"} {
		if !strings.Contains(got, want) {
			t.Errorf("13.2: %s is not in %s", want, got)
		}
	}
}

// TestRet: 13.2, ret hands over the topmost value alone, if the method has a result,
// and nothing, if it has none, whatever else stands there; the first frame's ret
// ends the machine, whatever stands there, another one's of method 0 does not.
func TestRet(t *testing.T) {
	for lines, want := range map[string]string{
		"push 9;call 1;pop;pop;ret;method sec;push 1;push 2;push 3;ret": "0.0[] 0.1[9] 1.0[] 1.1[1] 1.2[1 2] 1.3[1 2 3] 0.2[9 3] 0.3[9] 0.4[] 9000",
		"push 9;call 1;pop;ret;method none;push 1;push 2;ret":           "0.0[] 0.1[9] 1.0[] 1.1[1] 1.2[1 2] 0.2[9] 0.3[] 9000",
		"push 9;call 1;ret;method none;ret":                             "0.0[] 0.1[9] 1.0[] 0.2[9] 9000",
		"call 1;isnull;pop;ret;method puba;null 3;ret":                  "0.0[] 1.0[] 1.1[0] 0.1[0] 0.2[1] 0.3[] 9000",
		"call 1;isnull;pop;ret;method seca;buf 2;ret":                   "0.0[] 1.0[] 1.1[2] 0.1[2] 0.2[0] 0.3[] 9000",
		"push 1;push 2;ret":                        "0.0[] 0.1[1] 0.2[1 2] 9000",
		"getf 0;jumpif 5;push 1;putf 0;call 0;ret": "0.0[] 0.1[0] 0.2[] 0.3[1] 0.4[] 0.0[] 0.1[1] 0.5[] 0.5[] 9000",
		"call 1;pop;ret;method pub;call 2;push 1;add;ret;method pub;push 5;ret": "0.0[] 1.0[] 2.0[] 2.1[5] 1.1[5] 1.2[5 1] 1.3[6] 0.1[6] 0.2[] 9000",
	} {
		r := roomOf(t, 100, applet(t, "applet a;field pub;method none;"+lines))
		m := machine(t, r, 0, 99)
		if got := path(m, "0."); got != want {
			t.Errorf("13.2: %s: %s, not %s", lines, got, want)
		}
		ended(t, lines, m, r, api.Fine, 99-strings.Count(want, "]"), 0)
	}
}

// TestDepth: 13.2, Depth is how many frames there are, and one frame more than
// MaxDepth is Deep.
func TestDepth(t *testing.T) {
	i := applet(t, "applet a;field pub;field pub;method none;call 1;ret;method none;getf 0;push 1;add;putf 0;getf 0;getf 1;lt;jumpif 9;ret;call 1;ret")
	for want := 2; want <= api.MaxDepth; want++ {
		r := roomOf(t, 100, i)
		r.SetField(0, 1, int32(want-1))
		m := machine(t, r, 0, 999)
		deep, last := 0, m.Depth()
		for m.Step() == 0 {
			if d := m.Depth(); d > last+1 || d < last-1 {
				t.Errorf("13.2: depth %d behind %d", d, last)
			}
			last = m.Depth()
			deep = max(deep, last)
		}
		if m.Status() != api.Fine || m.Depth() != 0 || deep != want {
			t.Errorf("13.2: %x, %d frames, of %d", m.Status(), deep, want)
		}
	}
	r := roomOf(t, 100, i)
	r.SetField(0, 1, api.MaxDepth)
	m := machine(t, r, 0, 999)
	if got := m.Run(); got != api.Deep {
		t.Errorf("13.2: the ninth frame: %x", got)
	}
	if got := shows(m.Trace()); !strings.HasSuffix(got, fmt.Sprintf("[1 0 1007 24][1 0 1009 37][5 %d 0 0]", api.Deep)) {
		t.Errorf("13.2: the ninth frame shows %s", got)
	}
	n, _ := r.Field(0, 0)
	if n != 7 {
		t.Errorf("13.2: %d frames of method 1, not 7", n)
	}
	ended(t, "the ninth frame", m, r, api.Deep, 999-1-7*9, api.MaxDepth)
}

// TestCallX: 13.2, callx begins a frame of the applet and the method that the room
// resolves: its fields, its arrays are that applet's.
func TestCallX(t *testing.T) {
	a := applet(t, "applet a;field pub;import b 1 pub pub sec;import b 0 none;method none;push 3;putf 0;push 9;push 20;push 30;callx 0;pop;pop;callx 1;ret")
	b := applet(t, "applet b;field sec;field pub;method none;push 4;new 3 0;pop;ret;method pub;push 1;ret;method pub pub sec;load 1;putf 0;load 0;putf 1;load 0;push 2;mul;ret;export 0;export 2")
	r := roomOf(t, 100, a, applet(t, "applet c;method none;ret"), b)
	m := machine(t, r, 0, 99)
	want := "0.0.0[] 0.0.1[3] 0.0.2[] 0.0.3[9] 0.0.4[9 20] 0.0.5[9 20 30] 2.2.0[] 2.2.1[30] 2.2.2[] 2.2.3[20] 2.2.4[] 2.2.5[20] 2.2.6[20 2] 2.2.7[40] " +
		"0.0.6[9 40] 0.0.7[9] 0.0.8[] 2.0.0[] 2.0.1[4] 2.0.2[3] 2.0.3[] 0.0.9[] 9000"
	if got := walk(m); got != want {
		t.Errorf("13.2: callx: %s, not %s", got, want)
	}
	if got := shows(m.Trace()); !strings.Contains(got, "[1 0 5 38][1 2 2000 2]") || !strings.Contains(got, "[1 0 8 38][1 2 0 1][1 2 1 27][3 3 0 4][1 2 2 4][1 2 3 39][1 0 9 39]") {
		t.Errorf("13.2: callx shows %s", got)
	}
	x, _ := r.Field(0, 0)
	y, _ := r.Field(2, 0)
	z, _ := r.Field(2, 1)
	arr, _ := r.Heap().Array(3)
	if x != 3 || y != 30 || z != 20 || arr.Owner != 2 {
		t.Errorf("13.2: callx: fields %d, %d, %d, the array is %d's", x, y, z, arr.Owner)
	}
	ended(t, "callx", m, r, api.Fine, 99-22, 0)
}

// TestCallXWall: 13.2 and W3, a frame reaches arrays as its own applet: another
// one's is Wall, though that applet called; what is shared is not.
func TestCallXWall(t *testing.T) {
	b := applet(t, "applet b;method none;ret;method pub puba;load 0;push 1;get;ret;export 1")
	for life, want := range map[int]int{0: api.Wall, 1: api.Wall, 2: api.Wall, 4: api.Fine, 5: api.Fine, 6: api.Fine} {
		a := applet(t, fmt.Sprintf("applet a;import b 0 pub puba;method none;locals puba;push 4;new 3 %d;store 0;load 0;push 1;get;pop;load 0;callx 0;pop;ret", life))
		r := roomOf(t, 100, a, b)
		m := machine(t, r, 0, 99)
		if got := m.Run(); got != want {
			t.Errorf("W3: life %d: %x, not %x", life, got, want)
		}
		if want == api.Wall {
			ended(t, "wall", m, r, api.Wall, 99-12, 2)
		}
	}
}

// TestNoLink: 13.2, NoLink where the room resolves nothing: no such name, no such
// export, other params, another result.
func TestNoLink(t *testing.T) {
	b := applet(t, "applet b;method none;ret;method pub pub;load 0;ret;export 1")
	for imported, want := range map[string]int{"b 0 pub pub": api.Fine, "c 0 pub pub": api.NoLink, "b 1 pub pub": api.NoLink, "b 3 pub pub": api.NoLink, "b 0 sec pub": api.NoLink, "b 0 pub sec": api.NoLink} {
		r := roomOf(t, 100, applet(t, "applet a;import "+imported+";method none;push 1;callx 0;pop;ret"), b)
		m := machine(t, r, 0, 99)
		if got := m.Run(); got != want {
			t.Errorf("13.2: %s: %x, not %x", imported, got, want)
		}
		if want == api.NoLink {
			ended(t, imported, m, r, want, 97, 1)
		}
	}
}

// TestCallXDeep: 13.2, of callx NoLink ahead of Deep, and Deep where there are
// MaxDepth frames, of whatever applets.
func TestCallXDeep(t *testing.T) {
	b := applet(t, "applet b;import a 0 none;method none;callx 0;ret;method none;callx 0;ret;export 1")
	for line, want := range map[string]int{"callx 0": api.Deep, "callx 1": api.NoLink, "call 1": api.Deep, "jump 9": api.Fine} {
		a := applet(t, "applet a;field pub;import b 0 none;import c 0 none;method none;ret;method none;getf 0;push 1;add;putf 0;getf 0;push 4;lt;jumpif 10", line, "ret;callx 0;ret;export 1")
		r := roomOf(t, 100, a, b)
		m := machine(t, r, 1, 999)
		deep := 0
		for m.Step() == 0 {
			deep = max(deep, m.Depth())
		}
		if m.Status() != want || deep != api.MaxDepth {
			t.Errorf("13.2: %s with %d frames: %x, not %x", line, deep, m.Status(), want)
		}
		left := 999 - 1 - 9*3 - 3 - 9
		if want == api.Fine {
			ended(t, line, m, r, want, left-8, 0)
		} else {
			ended(t, line, m, r, want, left, api.MaxDepth)
		}
	}
}
