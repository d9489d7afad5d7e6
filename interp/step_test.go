package interp_test

import (
	"fmt"
	"math"
	"strings"
	"testing"

	"taciturn/api"
	"taciturn/code"
	"taciturn/room"
)

// TestStacks: 13.2, of each instruction what is popped and pushed, and where it goes
// on, told by where a machine stands ahead of each step.
func TestStacks(t *testing.T) {
	for lines, want := range map[string]string{
		"ret":                        "0[] 9000",
		"push 7;push -7;pop;pop;ret": "0[] 1[7] 2[7 -7] 3[7] 4[] 9000",
		"push 2147483647;push -2147483648;pop;pop;ret":                     "0[] 1[2147483647] 2[2147483647 -2147483648] 3[2147483647] 4[] 9000",
		"push 3;push 4;dup;pop;pop;pop;ret":                                "0[] 1[3] 2[3 4] 3[3 4 4] 4[3 4] 5[3] 6[] 9000",
		"push 5;store 1;push 6;store 0;load 1;load 0;pop;pop;ret":          "0[] 1[5] 2[] 3[6] 4[] 5[5] 6[5 6] 7[5] 8[] 9000",
		"push 1;push 5;neg;not;pop;pop;ret":                                "0[] 1[1] 2[1 5] 3[1 -5] 4[1 4] 5[1] 6[] 9000",
		"null 3;null 4;isnull;pop;isnull;pop;ret":                          "0[] 1[0] 2[0 0] 3[0 1] 4[0] 5[1] 6[] 9000",
		"buf 1;buf 2;isnull;pop;isnull;pop;ret":                            "0[] 1[1] 2[1 2] 3[1 0] 4[1] 5[0] 6[] 9000",
		"push 0;new 4 0;isnull;pop;ret":                                    "0[] 1[0] 2[3] 3[0] 4[] 9000",
		"push 9;push 0;push 5;push 6;pick;pop;pop;ret":                     "0[] 1[9] 2[9 0] 3[9 0 5] 4[9 0 5 6] 5[9 6] 6[9] 7[] 9000",
		"push 9;push 1;push 5;push 6;pick;pop;pop;ret":                     "0[] 1[9] 2[9 1] 3[9 1 5] 4[9 1 5 6] 5[9 5] 6[9] 7[] 9000",
		"push -4;push 5;push 6;pick;pop;ret":                               "0[] 1[-4] 2[-4 5] 3[-4 5 6] 4[5] 5[] 9000",
		"push -2147483648;push 5;push 6;pick;pop;ret":                      "0[] 1[-2147483648] 2[-2147483648 5] 3[-2147483648 5 6] 4[5] 5[] 9000",
		"push 0;buf 1;null 3;pick;pop;ret":                                 "0[] 1[0] 2[0 1] 3[0 1 0] 4[0] 5[] 9000",
		"push 8;getf 0;putf 0;push 3;putf 0;getf 0;getf 1;pop;pop;pop;ret": "0[] 1[8] 2[8 0] 3[8] 4[8 3] 5[8] 6[8 3] 7[8 3 0] 8[8 3] 9[8] 10[] 9000",
		"push 8;push 7;putf 1;getf 1;getf 0;pop;pop;pop;ret":               "0[] 1[8] 2[8 7] 3[8] 4[8 7] 5[8 7 0] 6[8 7] 7[8] 8[] 9000",
		"push 1;jump 3;ret;pop;jump 2":                                     "0[] 1[1] 3[1] 4[] 2[] 9000",
		"push 1;push 0;jumpif 4;jump 5;ret;pop;ret":                        "0[] 1[1] 2[1 0] 3[1] 5[1] 6[] 9000",
		"push 7;push 1;jumpif 4;ret;pop;ret":                               "0[] 1[7] 2[7 1] 4[7] 5[] 9000",
		"push -1;jumpif 4;ret;ret;ret":                                     "0[] 1[-1] 4[] 9000",
		"push -2147483648;jumpif 3;ret;ret":                                "0[] 1[-2147483648] 3[] 9000",
		"push 256;jumpif 3;ret;ret":                                        "0[] 1[256] 3[] 9000",
		"push 1;jumpif 2;ret":                                              "0[] 1[1] 2[] 9000",
		"push 2;store 0;load 0;push 1;sub;dup;store 0;jumpif 2;ret":        "0[] 1[2] 2[] 3[2] 4[2 1] 5[1] 6[1 1] 7[1] 2[] 3[1] 4[1 1] 5[0] 6[0 0] 7[0] 8[] 9000",
		"push 7;push 2;div;pop;push -7;push 2;rem;pop;ret":                 "0[] 1[7] 2[7 2] 3[3] 4[] 5[-7] 6[-7 2] 7[-1] 8[] 9000",
		"push 1;push 4;new 3 0;len;pop;pop;ret":                            "0[] 1[1] 2[1 4] 3[1 3] 4[1 4] 5[1] 6[] 9000",
		"push 1;buf 1;push 2;get;pop;pop;ret":                              "0[] 1[1] 2[1 1] 3[1 1 2] 4[1 30] 5[1] 6[] 9000",
		"push 1;buf 1;push 2;push 9;put;pop;ret":                           "0[] 1[1] 2[1 1] 3[1 1 2] 4[1 1 2 9] 5[1] 6[] 9000",
		"push 1;buf 2;push 0;buf 1;push 1;push 2;copy;pop;ret":             "0[] 1[1] 2[1 2] 3[1 2 0] 4[1 2 0 1] 5[1 2 0 1 1] 6[1 2 0 1 1 2] 7[1] 8[] 9000",
		"push 1;buf 2;push 0;buf 1;push 1;push 1;same;pop;pop;ret":         "0[] 1[1] 2[1 2] 3[1 2 0] 4[1 2 0 1] 5[1 2 0 1 1] 6[1 2 0 1 1 1] 7[1 0] 8[1] 9[] 9000",
		"push 1;buf 2;push 0;push 1;send 2;pop;ret":                        "0[] 1[1] 2[1 2] 3[1 2 0] 4[1 2 0 1] 5[1] 6[] 9000",
		"push 1;push 2;push 3;push 4;push 5;push 6;push 7;push 8;ret":      "0[] 1[1] 2[1 2] 3[1 2 3] 4[1 2 3 4] 5[1 2 3 4 5] 6[1 2 3 4 5 6] 7[1 2 3 4 5 6 7] 8[1 2 3 4 5 6 7 8] 9000",
	} {
		i := applet(t, "applet a;field pub;field sec;method none;locals pub sec", lines)
		r := roomOf(t, 100, i)
		r.Begin([]byte{10, 20, 30}, []byte{40, 50})
		if got := path(machine(t, r, 0, 99), "0.0."); got != want {
			t.Errorf("13.2: %s: %s, not %s", lines, got, want)
		}
	}
}

// edges are numbers of 32 bits that sums and shifts part at.
func edges() []int32 {
	return []int32{math.MinInt32, math.MinInt32 + 1, -65536, -33, -32, -2, -1, 0, 1, 2, 7, 31, 32, 33, 255, 46341, 1 << 16, math.MaxInt32 - 1, math.MaxInt32}
}

// sums answers what instructions make of two numbers.
func sums() map[string]func(a, b int64) int64 {
	truth := func(ok bool) int64 {
		if ok {
			return 1
		}
		return 0
	}
	return map[string]func(a, b int64) int64{
		"add":   func(a, b int64) int64 { return a + b },
		"sub":   func(a, b int64) int64 { return a - b },
		"mul":   func(a, b int64) int64 { return a * b },
		"and":   func(a, b int64) int64 { return a & b },
		"or":    func(a, b int64) int64 { return a | b },
		"xor":   func(a, b int64) int64 { return a ^ b },
		"shl":   func(a, b int64) int64 { return a << (b & 31) },
		"shr":   func(a, b int64) int64 { return a & math.MaxUint32 >> (b & 31) },
		"sar":   func(a, b int64) int64 { return a >> (b & 31) },
		"eq":    func(a, b int64) int64 { return truth(a == b) },
		"lt":    func(a, b int64) int64 { return truth(a < b) },
		"below": func(a, b int64) int64 { return truth(a&math.MaxUint32 < b&math.MaxUint32) },
	}
}

// TestSums: 13.2, what two ints make, the topmost the second one: of public ints and
// of secret ones; what stands below stays.
func TestSums(t *testing.T) {
	for name, sum := range sums() {
		r := roomOf(t, 100, applet(t, "applet a;field pub;field sec;method none;push 5;getf 0;getf 1", name, "pop;pop;ret"))
		for _, a := range edges() {
			for _, b := range edges() {
				r.SetField(0, 0, a)
				r.SetField(0, 1, b)
				want := fmt.Sprintf("0.0.0[] 0.0.1[5] 0.0.2[5 %d] 0.0.3[5 %d %d] 0.0.4[5 %d] 0.0.5[5] 0.0.6[] 9000", a, a, b, int32(sum(int64(a), int64(b))))
				if got := walk(machine(t, r, 0, 99)); got != want {
					t.Errorf("13.2: %s of %d, %d: %s, not %s", name, a, b, got, want)
				}
			}
		}
	}
}

// TestOnes: 13.2, neg and not of one int, div and rem of two, and pick by one.
func TestOnes(t *testing.T) {
	r := roomOf(t, 100, applet(t, "applet a;field pub;field pub;method none;getf 0;neg;pop;getf 0;not;pop;getf 0;getf 1;getf 0;pick;pop;getf 0;getf 1;div;pop;getf 0;getf 1;rem;pop;ret"))
	for _, a := range edges() {
		for _, b := range edges() {
			r.SetField(0, 0, a)
			r.SetField(0, 1, b)
			picked := b
			if a == 0 {
				picked = a
			}
			want := fmt.Sprintf("0[] 1[%d] 2[%d] 3[] 4[%d] 5[%d] 6[] 7[%d] 8[%d %d] 9[%d %d %d] 10[%d] 11[] 12[%d] 13[%d %d] ", a, -a, a, ^a, a, a, b, a, b, a, picked, a, a, b)
			switch {
			case b == 0:
				want += "6f03"
			default:
				div, rem := int32(int64(a)/int64(b)), int32(int64(a)%int64(b))
				want += fmt.Sprintf("14[%d] 15[] 16[%d] 17[%d %d] 18[%d] 19[] 9000", div, a, a, b, rem)
			}
			if got := path(machine(t, r, 0, 99), "0.0."); got != want {
				t.Errorf("13.2: of %d, %d: %s, not %s", a, b, got, want)
			}
		}
	}
}

// TestLocals: 13.2, load and store of each local, and of it alone.
func TestLocals(t *testing.T) {
	lines := "applet a;method none;locals pub pub pub pub pub pub pub pub pub pub"
	for k := range api.MaxLocals {
		lines += fmt.Sprintf(";push %d;store %d", 100+k, k)
	}
	for k := range api.MaxLocals {
		lines += fmt.Sprintf(";load %d;pop", k)
	}
	want := ""
	for k := range api.MaxLocals {
		want += fmt.Sprintf("0.0.%d[] 0.0.%d[%d] ", 20+2*k, 21+2*k, 100+k)
	}
	if got := walk(machine(t, roomOf(t, 100, applet(t, lines+";ret")), 0, 99)); !strings.HasSuffix(got, want+"0.0.40[] 9000") {
		t.Errorf("13.2: %s, not %s", got, want)
	}
}

// TestFields: 13.2, getf and putf of each field, and of it alone; they stay behind
// the end.
func TestFields(t *testing.T) {
	lines := "applet a" + strings.Repeat(";field sec", api.MaxFields) + ";method none"
	for k := range api.MaxFields {
		lines += fmt.Sprintf(";getf %d;push %d;add;putf %d", k, 100+k, k)
	}
	i := applet(t, lines+";ret")
	r := roomOf(t, 100, i, i)
	for n := range int32(3) {
		machine(t, r, 1, 99).Run()
		for k := range api.MaxFields {
			one, _ := r.Field(0, k)
			other, _ := r.Field(1, k)
			if one != 0 || other != (n+1)*int32(100+k) {
				t.Errorf("13.2: field %d: %d, and %d", k, one, other)
			}
		}
	}
}

// served is a run that ends badly in what the room serves, or well.
type served struct {
	lines, shows string
	status, fuel int
}

// TestServed: 13.2, the status of what the room serves is that with which a machine
// ends, where it is not Fine; what shows of it stands behind the step, ahead of the
// end.
func TestServed(t *testing.T) {
	for _, c := range []served{
		{"push 1;push 0;div;pop;ret", "[1 0 2 17]", api.Divide, 96},
		{"push 1;push 0;rem;pop;ret", "[1 0 2 18]", api.Divide, 96},
		{"push -1;new 3 0;pop;ret", "[1 0 1 27][3 3 0 -1]", api.Size, 97},
		{"push 65;new 4 6;pop;ret", "[1 0 1 27][3 4 6 65]", api.Size, 97},
		{"push 57;new 3 0;pop;ret", "[1 0 1 27][3 3 0 57]", api.HeapFull, 97},
		{"null 3;len;pop;ret", "[1 0 1 28][2 0 0 0]", api.Null, 97},
		{"null 4;push 3;get;pop;ret", "[1 0 2 29][2 0 3 1]", api.Null, 96},
		{"buf 1;push 3;get;pop;ret", "[1 0 2 29][2 1 3 1]", api.Bounds, 96},
		{"buf 2;push -1;get;pop;ret", "[1 0 2 29][2 2 -1 1]", api.Bounds, 96},
		{"null 4;push 3;push 1;put;ret", "[1 0 3 30][2 0 3 1]", api.Null, 95},
		{"buf 2;push 2;push 1;put;ret", "[1 0 3 30][2 2 2 1]", api.Bounds, 95},
		{"buf 2;push 0;buf 1;push 1;push 3;copy;ret", "[1 0 5 31][2 2 0 3][2 1 1 3]", api.Bounds, 93},
		{"buf 2;push 0;null 3;push 1;push 2;copy;ret", "[1 0 5 31][2 2 0 2][2 0 1 2]", api.Null, 93},
		{"buf 2;push 1;buf 1;push 1;push 2;same;pop;ret", "[1 0 5 32][2 2 1 2][2 1 1 2]", api.Bounds, 93},
		{"null 3;push 1;buf 1;push 1;push 2;same;pop;ret", "[1 0 5 32][2 0 1 2][2 1 1 2]", api.Null, 93},
		{"buf 1;push 1;push 3;send 1;ret", "[1 0 3 36][2 1 1 3]", api.Bounds, 95},
		{"null 4;push 1;push 3;send 2;ret", "[1 0 3 36][2 0 1 3]", api.Null, 95},
		{"push 48;new 3 0;store 0;load 0;push 0;push 48;send 1;load 0;push 0;push 48;send 1;load 0;push 0;push 48;send 1;ret", "[1 0 14 36][2 3 0 48]", api.Size, 84},
		{"getf 0;len;pop;ret", "[1 0 1 28][2 3 0 0]", api.Wall, 97},
		{"getf 0;push 0;get;pop;ret", "[1 0 2 29][2 3 0 1]", api.Wall, 96},
	} {
		i := applet(t, "applet a;field puba;method none;locals puba", c.lines)
		r := roomOf(t, 64, i)
		if strings.HasPrefix(c.lines, "getf") {
			ref, _ := r.Heap().Alloc(1, api.PubArr, 0, false, 3)
			r.SetField(0, 0, int32(ref))
		}
		r.Begin([]byte{10, 20, 30}, []byte{40, 50})
		m := machine(t, r, 0, 99)
		if got := m.Run(); got != c.status || !strings.HasSuffix(shows(m.Trace()), c.shows+fmt.Sprintf("[5 %d 0 0]", c.status)) {
			t.Errorf("13.2: %s: %x, shows %s, not %x, %s", c.lines, got, shows(m.Trace()), c.status, c.shows)
		}
		ended(t, c.lines, m, r, c.status, c.fuel, 1)
	}
}

// TestServedWell: 13.2, what the room serves is done in it, by A and B as they are:
// arrays of their label, life and sharing, bytes, what is told; it all stays.
func TestServedWell(t *testing.T) {
	for life := range 7 {
		if life == 3 {
			continue
		}
		for _, label := range []int{api.PubArr, api.SecArr} {
			r := roomOf(t, 100, applet(t, "applet b;method none;ret"), applet(t, fmt.Sprintf("applet a;method none;push 5;new %d %d;pop;ret", label, life)))
			m := machine(t, r, 1, 99)
			if got := walk(m); got != "1.0.0[] 1.0.1[5] 1.0.2[3] 1.0.3[] 9000" {
				t.Errorf("13.2: new: %s", got)
			}
			want := api.Array{Owner: 1, Label: label, Life: life % 4, Share: life >= 4, Data: make([]byte, 5)}
			if a, ok := r.Heap().Array(3); !ok || fmt.Sprint(a) != fmt.Sprint(want) || r.Heap().Count() != 3 {
				t.Errorf("13.2: new %d %d makes %+v", label, life, a)
			}
		}
	}
	r := roomOf(t, 100, applet(t, "applet a;method none;buf 1;push 1;push 777;put;buf 2;push 0;buf 1;push 0;push 2;copy;buf 1;push 0;push 2;send 1;buf 1;push 2;push 1;send 2;buf 1;push 1;push 1;send 1;ret"))
	r.Begin([]byte{10, 20, 30}, []byte{40, 50})
	machine(t, r, 0, 99).Run()
	public, secret := r.Told()
	one, _ := r.Heap().Array(1)
	other, _ := r.Heap().Array(2)
	if got := fmt.Sprint(one.Data, other.Data, public, secret); got != "[10 9 30] [10 9] [10 9 9] [30]" {
		t.Errorf("13.2: put, copy, send: %s", got)
	}
}

// TestEndsHalfway: 13.2, what was done ahead of the step that ends it stays done.
func TestEndsHalfway(t *testing.T) {
	r := roomOf(t, 100, applet(t, "applet a;field pub;method none;push 7;putf 0;buf 1;push 0;push 9;put;buf 1;push 0;push 1;send 1;push 4;new 3 0;pop;null 3;len;putf 0;ret"))
	r.Begin([]byte{1}, nil)
	m := machine(t, r, 0, 99)
	m.Run()
	n, _ := r.Field(0, 0)
	a, _ := r.Heap().Array(1)
	public, _ := r.Told()
	if got := fmt.Sprintf("%x %d %v %v %d", m.Status(), n, a.Data, public, r.Heap().Count()); got != "6f01 7 [9] [9] 3" {
		t.Errorf("13.2: an end halfway: %s", got)
	}
}

// broken are images that verify refuses, or would never see, since they are not
// right; of such nothing is promised but R1.
func broken() []api.Image {
	all := []api.Image{{}, {Methods: []api.Method{{}}}, {Methods: []api.Method{{Params: []int{1, 2, 3, 4, 1}, Result: 9, Locals: []int{7}, Code: []api.Instr{{Op: code.Load, A: 4}, {Op: code.Ret}}}}}}
	add := func(i ...api.Instr) {
		m := api.Method{Params: make([]int, 12), Result: 1, Code: i}
		all = append(all, api.Image{Imports: []api.Import{{Name: "b"}}, Methods: []api.Method{{Code: i}, m}, Exports: []int{5}})
	}
	for op := -1; op <= code.Ret+2; op++ {
		for _, a := range append(far(), 0, 1, 2, 119, 120) {
			add(api.Instr{Op: op, A: a, B: a})
			add(api.Instr{Op: code.Push, A: 1}, api.Instr{Op: op, A: a, B: -a}, api.Instr{Op: code.Jump})
		}
	}
	for _, op := range far() {
		add(api.Instr{Op: op})
	}
	return all
}

// TestBroken: R1, a machine of an image that verify refuses panics nowhere, and ends
// within fuel and one steps.
func TestBroken(t *testing.T) {
	for _, i := range broken() {
		r := roomOf(t, 100, i)
		m := machine(t, r, 0, 300)
		for range 301 {
			where(m)
			m.Step()
		}
		if m.Status() == 0 || m.Depth() > api.MaxDepth {
			t.Errorf("R1: %+v: status %x, depth %d", i.Methods, m.Status(), m.Depth())
		}
		if e, _ := m.Trace().At(m.Trace().Len() - 1); e.What != 5 || e.A != m.Status() {
			t.Errorf("R1: %+v ends with %+v", i.Methods, e)
		}
	}
}

// TestNoInstruction: R1, what is no instruction, or none at all, ends with NotNow;
// verify sees to it that this never comes.
func TestNoInstruction(t *testing.T) {
	for _, op := range append(far(), 0, code.Ret+1, 255) {
		r := roomOf(t, 100, api.Image{Methods: []api.Method{{Code: []api.Instr{{Op: op}, {Op: code.Jump}}}}})
		m := machine(t, r, 0, 9)
		m.Step()
		ended(t, "no instruction", m, r, api.NotNow, 8, 1)
	}
	r := roomOf(t, 100, api.Image{})
	m := machine(t, r, 0, 9)
	m.Step()
	ended(t, "no method", m, r, api.NotNow, 9, 1)
}

// TestServes: 13.2, the room serves no instruction that is not told of as served.
func TestServes(t *testing.T) {
	told := "div rem new len get put copy same send "
	got := ""
	for op := code.Push; op <= code.Ret; op++ {
		if room.Serves(op) >= 0 {
			got += code.Name(op) + " "
		}
	}
	if got != told {
		t.Errorf("13.2: the room serves %s, not %s", got, told)
	}
}
