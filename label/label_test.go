package label_test

import (
	"math"
	"slices"
	"testing"

	"taciturn/api"
	"taciturn/label"
	"taciturn/sample"
)

// Short words for the kinds.
const (
	pubInt = api.PubInt
	secInt = api.SecInt
	pubArr = api.PubArr
	secArr = api.SecArr
)

// room is what is laid behind a list to see whether its spare room is kept.
const room = 77

// kinds are all four.
func kinds() []int {
	return []int{pubInt, secInt, pubArr, secArr}
}

// strangers are no kinds, though some have a kind's lowest bits.
func strangers() []int {
	return []int{math.MinInt, math.MinInt + pubInt, math.MinInt + secArr, -4, -2, -1, 0, 5, 6, 7, 8,
		1<<8 + pubInt, 1<<16 + secInt, 1<<30 + pubArr, math.MaxInt}
}

// everything is kinds and strangers.
func everything() []int {
	return append(kinds(), strangers()...)
}

// pair is two kinds.
type pair struct{ a, b int }

// joins are all pairs that can be joined, and to what, as 6.1 lists them.
func joins() map[pair]int {
	return map[pair]int{
		{pubInt, pubInt}: pubInt,
		{pubInt, secInt}: secInt,
		{secInt, pubInt}: secInt,
		{secInt, secInt}: secInt,
		{pubArr, pubArr}: pubArr,
		{secArr, secArr}: secArr,
	}
}

// fits are all pairs of which the first one fits into the second.
func fits() map[pair]bool {
	return map[pair]bool{
		{pubInt, pubInt}: true,
		{pubInt, secInt}: true,
		{secInt, secInt}: true,
		{pubArr, pubArr}: true,
		{secArr, secArr}: true,
	}
}

// TestExample: 6.1, the chapter's row.
func TestExample(t *testing.T) {
	if kind, ok := label.Join(api.PubInt, api.SecInt); kind != api.SecInt || !ok {
		t.Errorf("6.1: Join(PubInt, SecInt): %d, %t", kind, ok)
	}
	if kind, ok := label.Join(api.PubArr, api.SecArr); kind != 0 || ok {
		t.Errorf("6.1: Join(PubArr, SecArr): %d, %t", kind, ok)
	}
}

// TestOne: 6.1, what is told of one kind.
func TestOne(t *testing.T) {
	rows := []struct {
		kind                   int
		isInt, isArr, isSecret bool
		of                     int
	}{
		{pubInt, true, false, false, 0},
		{secInt, true, false, true, 0},
		{pubArr, false, true, false, pubInt},
		{secArr, false, true, true, secInt},
	}
	for _, row := range rows {
		isInt, isArr, isSecret := label.IsInt(row.kind), label.IsArr(row.kind), label.IsSecret(row.kind)
		if isInt != row.isInt || isArr != row.isArr || isSecret != row.isSecret {
			t.Errorf("6.1: %d: IsInt %t, IsArr %t, IsSecret %t", row.kind, isInt, isArr, isSecret)
		}
		if of := label.Of(row.kind); of != row.of {
			t.Errorf("6.1: Of(%d): %d, not %d", row.kind, of, row.of)
		}
	}
}

// TestOneStranger: 6.1, what is no kind is nothing, and has no bytes.
func TestOneStranger(t *testing.T) {
	for _, kind := range strangers() {
		if label.IsInt(kind) || label.IsArr(kind) || label.IsSecret(kind) || label.Of(kind) != 0 {
			t.Errorf("6.1: %d: %t, %t, %t, %d", kind, label.IsInt(kind), label.IsArr(kind), label.IsSecret(kind), label.Of(kind))
		}
	}
}

// TestJoin: 6.1, each pair, of strangers too.
func TestJoin(t *testing.T) {
	for _, a := range everything() {
		for _, b := range everything() {
			want, may := joins()[pair{a, b}]
			if kind, ok := label.Join(a, b); kind != want || ok != may {
				t.Errorf("6.1: Join(%d, %d): %d, %t, not %d, %t", a, b, kind, ok, want, may)
			}
		}
	}
}

// TestFits: 6.1, each pair, of strangers too.
func TestFits(t *testing.T) {
	for _, from := range everything() {
		for _, to := range everything() {
			if got := label.Fits(from, to); got != fits()[pair{from, to}] {
				t.Errorf("6.1: Fits(%d, %d): %t", from, to, got)
			}
		}
	}
}

// TestBoth: 6.1, of two ints; 0 of each pair of which one is none.
func TestBoth(t *testing.T) {
	want := map[pair]int{
		{pubInt, pubInt}: pubInt,
		{pubInt, secInt}: secInt,
		{secInt, pubInt}: secInt,
		{secInt, secInt}: secInt,
	}
	for _, a := range everything() {
		for _, b := range everything() {
			if got := label.Both(a, b); got != want[pair{a, b}] {
				t.Errorf("6.1: Both(%d, %d): %d, not %d", a, b, got, want[pair{a, b}])
			}
		}
	}
}

// TestOrder: the chapter's Ways, a lattice: Fits is an order of the four kinds.
func TestOrder(t *testing.T) {
	for _, a := range kinds() {
		if !label.Fits(a, a) {
			t.Errorf("Ways: %d does not fit itself", a)
		}
		for _, b := range kinds() {
			if a != b && label.Fits(a, b) && label.Fits(b, a) {
				t.Errorf("Ways: %d and %d fit each other", a, b)
			}
			for _, c := range kinds() {
				if label.Fits(a, b) && label.Fits(b, c) && !label.Fits(a, c) {
					t.Errorf("Ways: %d fits %d, and that %d, but it does not", a, b, c)
				}
			}
		}
	}
}

// TestLeast: the chapter's Ways, a lattice: Join is the least that both fit into,
// and there is none only where nothing is such.
func TestLeast(t *testing.T) {
	for _, a := range kinds() {
		for _, b := range kinds() {
			kind, ok := label.Join(a, b)
			if ok && (!label.Fits(a, kind) || !label.Fits(b, kind)) {
				t.Errorf("Ways: Join(%d, %d) is %d, and one does not fit", a, b, kind)
			}
			for _, c := range kinds() {
				if label.Fits(a, c) && label.Fits(b, c) && (!ok || !label.Fits(kind, c)) {
					t.Errorf("Ways: Join(%d, %d) is %d, %t, but both fit %d", a, b, kind, ok, c)
				}
			}
		}
	}
}

// TestSecretStays: nothing that fits, is joined or worked out loses its secret.
func TestSecretStays(t *testing.T) {
	for _, a := range kinds() {
		for _, b := range kinds() {
			isSecret := label.IsSecret(a) || label.IsSecret(b)
			if label.Fits(a, b) && label.IsSecret(a) && !label.IsSecret(b) {
				t.Errorf("6.1: %d fits %d", a, b)
			}
			if kind, ok := label.Join(a, b); ok && label.IsSecret(kind) != isSecret {
				t.Errorf("6.1: Join(%d, %d): %d", a, b, kind)
			}
			if kind := label.Both(a, b); kind != 0 && label.IsSecret(kind) != isSecret {
				t.Errorf("6.1: Both(%d, %d): %d", a, b, kind)
			}
		}
		if label.IsArr(a) && label.IsSecret(label.Of(a)) != label.IsSecret(a) {
			t.Errorf("6.1: Of(%d): %d", a, label.Of(a))
		}
	}
}

// lists holds what FitsAll and JoinAll answer of two lists against what is
// asked for; joined is nil where they can't be joined.
func lists(t *testing.T, a, b []int, fit bool, joined []int, ok bool) {
	t.Helper()
	if got := label.FitsAll(a, b); got != fit {
		t.Errorf("6.1: FitsAll(%v, %v): %t", a, b, got)
	}
	got, may := label.JoinAll(a, b)
	if may != ok || !slices.Equal(got, joined) || !may && got != nil {
		t.Errorf("6.1: JoinAll(%v, %v): %v, %t, not %v, %t", a, b, got, may, joined, ok)
	}
}

// TestLists: 6.1, one by one, wherever the one stands that turns it.
func TestLists(t *testing.T) {
	rows := []struct {
		a, b   []int
		fit    bool
		joined []int
		ok     bool
	}{
		{[]int{pubInt}, []int{pubInt}, true, []int{pubInt}, true},
		{[]int{pubInt}, []int{secInt}, true, []int{secInt}, true},
		{[]int{secInt}, []int{pubInt}, false, []int{secInt}, true},
		{[]int{pubArr}, []int{pubArr}, true, []int{pubArr}, true},
		{[]int{pubArr}, []int{secArr}, false, nil, false},
		{[]int{secArr}, []int{pubArr}, false, nil, false},
		{[]int{pubInt}, []int{pubArr}, false, nil, false},
		{kinds(), kinds(), true, kinds(), true},
		{[]int{secInt, pubInt, secArr}, []int{secInt, secInt, secArr}, true, []int{secInt, secInt, secArr}, true},
		{[]int{secInt, pubInt, secArr}, []int{pubInt, secInt, secArr}, false, []int{secInt, secInt, secArr}, true},
		{[]int{pubArr, pubInt, pubInt}, []int{secArr, pubInt, pubInt}, false, nil, false},
		{[]int{pubInt, pubArr, pubInt}, []int{pubInt, secArr, pubInt}, false, nil, false},
		{[]int{pubInt, pubInt, pubArr}, []int{pubInt, pubInt, secInt}, false, nil, false},
		{[]int{pubInt, secArr, pubArr}, []int{secArr, pubInt, pubArr}, false, nil, false},
	}
	for _, row := range rows {
		lists(t, row.a, row.b, row.fit, row.joined, row.ok)
	}
}

// TestListsLength: 6.1, as long as one another; nil and empty are the same.
func TestListsLength(t *testing.T) {
	for _, a := range [][]int{nil, {}} {
		for _, b := range [][]int{nil, {}} {
			lists(t, a, b, true, nil, true)
		}
	}
	for n := range 20 {
		for m := range 20 {
			a, b := slices.Repeat([]int{pubInt}, n), slices.Repeat([]int{secInt}, m)
			if n == m {
				lists(t, a, b, true, b, true)
				lists(t, b, a, n == 0, b, true)
				continue
			}
			lists(t, a, b, false, nil, false)
			lists(t, b, a, false, nil, false)
			lists(t, a, slices.Repeat([]int{pubInt}, m), false, nil, false)
		}
	}
}

// TestListsStranger: 6.1, what is no kind neither fits nor is joined, wherever it
// stands, not even with itself.
func TestListsStranger(t *testing.T) {
	for _, stranger := range strangers() {
		for at := range kinds() {
			list := kinds()
			list[at] = stranger
			lists(t, list, kinds(), false, nil, false)
			lists(t, kinds(), list, false, nil, false)
			lists(t, list, slices.Clone(list), false, nil, false)
		}
		lists(t, nil, []int{stranger}, false, nil, false)
		lists(t, []int{stranger}, nil, false, nil, false)
	}
}

// TestListsManyTurns: 6.1, lists by a fixed rule, held against the two tables.
func TestListsManyTurns(t *testing.T) {
	d := sample.NewDice(6)
	whole := 0
	for range 20000 {
		a, b := []int(nil), []int(nil)
		for range d.UpTo(8) {
			kind := pubInt + d.UpTo(3)
			other := kind
			if d.UpTo(2) == 0 {
				other = d.UpTo(5)
			}
			a, b = append(a, kind), append(b, other)
		}
		fit, joined, ok := true, []int(nil), true
		for at := range a {
			kind, may := joins()[pair{a[at], b[at]}]
			fit, joined, ok = fit && fits()[pair{a[at], b[at]}], append(joined, kind), ok && may
		}
		if !ok {
			joined = nil
		} else if len(a) > 1 {
			whole++
		}
		lists(t, a, b, fit, joined, ok)
	}
	if whole < 1000 {
		t.Errorf("only %d lists could be joined", whole)
	}
}

// TestListsMemory: R2, what is handed in is not changed, its spare room included,
// and what is answered is new, its spare room too.
func TestListsMemory(t *testing.T) {
	a, b := append(kinds(), room, room), append(kinds(), room, room)
	a[1], b[0] = pubInt, secInt
	keptA, keptB := slices.Clone(a), slices.Clone(b)
	label.FitsAll(a[:4], b[:4])
	one, _ := label.JoinAll(a[:4], b[:4])
	other, _ := label.JoinAll(a[:4], b[:4])
	same, _ := label.JoinAll(a[:4], a[:4])
	empty, _ := label.JoinAll(a[:0], b[:0])
	for _, list := range [][]int{one, same, empty} {
		list = list[:cap(list)]
		for at := range list {
			list[at] = room
		}
	}
	if !slices.Equal(a, keptA) || !slices.Equal(b, keptB) {
		t.Errorf("R2: %v, %v", a, b)
	}
	if !slices.Equal(other, []int{secInt, secInt, pubArr, secArr}) {
		t.Errorf("R2: %v", other)
	}
}

// TestRefusedMemory: R2, lists that are refused are as they were, too.
func TestRefusedMemory(t *testing.T) {
	a, b := []int{pubInt, secInt, pubArr, room}, []int{secInt, pubInt, secArr, room}
	label.FitsAll(a[:3], b[:3])
	label.JoinAll(a[:3], b[:3])
	label.JoinAll(a[:3], b[:2])
	if !slices.Equal(a, []int{pubInt, secInt, pubArr, room}) || !slices.Equal(b, []int{secInt, pubInt, secArr, room}) {
		t.Errorf("R2: %v, %v", a, b)
	}
}
