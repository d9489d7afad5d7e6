package leak_test

import (
	"math"
	"slices"
	"testing"

	"taciturn/api"
	"taciturn/leak"
	"taciturn/sample"
)

// spare is what is laid into a list to see who else has its memory.
const spare = 77

// numbers are those of an event: ordinary ones, the greatest and the least, and
// some that have another one's lowest bits.
func numbers() []int {
	return []int{math.MinInt, -1 << 32, -2, -1, 0, 1, 2, 5, 6, api.Fine, 1<<31 - 1, 1 << 32, 1<<32 + 1, math.MaxInt}
}

// none are places at which a trace of length events has none.
func none(length int) []int {
	return []int{math.MinInt, -1 << 32, -length - 1, -2, -1, length, length + 1, 2*length + 1, api.MaxTrace, 1 << 32, 1<<32 + length, math.MaxInt}
}

// event answers the n-th of a row of events of which no two are the same.
func event(n int) api.Event {
	return api.Event{What: leak.Step + n%leak.End, A: n, B: -n, C: n * n}
}

// row answers the first n events of that row.
func row(n int) []api.Event {
	all := []api.Event(nil)
	for k := range n {
		all = append(all, event(k))
	}
	return all
}

// add holds that an event is kept.
func add(t *testing.T, trace *leak.Trace, e api.Event) {
	t.Helper()
	if !trace.Add(e.What, e.A, e.B, e.C) {
		t.Fatalf("10.1: Add(%+v) behind %d: false", e, trace.Len())
	}
}

// made answers a new trace with those events.
func made(t *testing.T, events ...api.Event) *leak.Trace {
	t.Helper()
	trace := leak.New()
	if trace == nil {
		t.Fatal("10.1: New: nil")
	}
	for _, e := range events {
		add(t, trace, e)
	}
	return trace
}

// holds holds all that a trace tells against a list of its events.
func holds(t *testing.T, when string, trace *leak.Trace, want []api.Event) {
	t.Helper()
	if trace.Len() != len(want) {
		t.Errorf("10.1: %s: Len %d, not %d", when, trace.Len(), len(want))
	}
	if all := trace.All(); !slices.Equal(all, want) {
		t.Errorf("10.1: %s: All: %d events, not those %d", when, len(all), len(want))
	}
	for i, e := range want {
		if got, ok := trace.At(i); got != e || !ok {
			t.Fatalf("10.1: %s: At(%d): %+v, %t, not %+v", when, i, got, ok, e)
		}
	}
	for _, i := range none(len(want)) {
		if i >= 0 && i < len(want) {
			continue
		}
		if got, ok := trace.At(i); got != (api.Event{}) || ok {
			t.Errorf("10.1: %s: At(%d) of %d: %+v, %t", when, i, len(want), got, ok)
		}
	}
}

// parts holds Same, whichever of the two stands first.
func parts(t *testing.T, when string, a, b *leak.Trace, want int) {
	t.Helper()
	if got := leak.Same(a, b); got != want {
		t.Errorf("10.1: %s: Same %d, not %d", when, got, want)
	}
	if got := leak.Same(b, a); got != want {
		t.Errorf("10.1: %s: Same the other way round %d, not %d", when, got, want)
	}
}

// ofOne answers events that have the numbers in one of their four places.
func ofOne(place int, all ...int) []api.Event {
	events := []api.Event(nil)
	for _, n := range all {
		four := [4]int{leak.Touch, 1, 1, 1}
		four[place] = n
		events = append(events, api.Event{What: four[0], A: four[1], B: four[2], C: four[3]})
	}
	return events
}

// TestExample: the chapter's row, in each of an event's four places.
func TestExample(t *testing.T) {
	for place := range 4 {
		parts(t, "example", made(t, ofOne(place, 1, 2, 3)...), made(t, ofOne(place, 1, 2, 4)...), 2)
	}
}

// TestNumbers: the chapter's numbers of what shows.
func TestNumbers(t *testing.T) {
	got := []int{leak.Step, leak.Touch, leak.Make, leak.Chip, leak.End}
	if !slices.Equal(got, []int{1, 2, 3, 4, 5}) {
		t.Errorf("10: %v", got)
	}
}

// TestNew: 10.1, a new trace has no events, and is a trace of its own.
func TestNew(t *testing.T) {
	a, b := made(t), made(t)
	holds(t, "at first", a, nil)
	add(t, a, event(1))
	holds(t, "one that was told", a, []api.Event{event(1)})
	holds(t, "one that was not told", b, nil)
	holds(t, "a later one", made(t), nil)
}

// TestAdd: 10.1, events stand in the order in which they were added, behind each
// of them.
func TestAdd(t *testing.T) {
	trace := made(t)
	want := row(300)
	for n, e := range want {
		add(t, trace, e)
		holds(t, "behind Add", trace, want[:n+1])
	}
}

// TestAddAlike: 10.1, an event that was there before is another one.
func TestAddAlike(t *testing.T) {
	want := []api.Event{event(3), event(3), {}, {}, event(3)}
	holds(t, "twice", made(t, want...), want)
}

// TestAddWhatever: 10.1, whatever the numbers are, each stands in its own place
// as it was given, what no constant names too.
func TestAddWhatever(t *testing.T) {
	for place := range 4 {
		want := ofOne(place, numbers()...)
		holds(t, "whatever", made(t, want...), want)
	}
	apart := []api.Event{{What: 1, A: 2, B: 3, C: 4}, {What: 4, A: 3, B: 2, C: 1}, {}}
	holds(t, "four that differ", made(t, apart...), apart)
}

// full answers a trace that has no room left, and its events.
func full(t *testing.T) (*leak.Trace, []api.Event) {
	t.Helper()
	want := row(api.MaxTrace)
	return made(t, want...), want
}

// TestAddFull: 10.1, MaxTrace events have room; of one more Add is false, and
// nothing is turned.
func TestAddFull(t *testing.T) {
	trace, want := full(t)
	for n := range 3 {
		if trace.Add(leak.End, n, n, n) {
			t.Errorf("10.1: Add behind %d: true", trace.Len())
		}
	}
	holds(t, "full", trace, want)
}

// TestAddLast: 10.1, the last one that has room is kept like the others.
func TestAddLast(t *testing.T) {
	want := row(api.MaxTrace - 1)
	trace := made(t, want...)
	holds(t, "one short of full", trace, want)
	add(t, trace, api.Event{What: spare, A: 1, B: 2, C: 3})
	if got, ok := trace.At(api.MaxTrace - 1); got != (api.Event{What: spare, A: 1, B: 2, C: 3}) || !ok || trace.Len() != api.MaxTrace {
		t.Errorf("10.1: the last of %d: %+v, %t", trace.Len(), got, ok)
	}
}

// TestAtNone: 10.1 and R5, places below 0 and past the end, of traces of each
// short length.
func TestAtNone(t *testing.T) {
	for length := range 20 {
		trace := made(t, row(length)...)
		for i := -40; i < 40; i++ {
			got, ok := trace.At(i)
			if there := i >= 0 && i < length; ok != there || !there && got != (api.Event{}) {
				t.Errorf("10.1: At(%d) of %d: %+v, %t", i, length, got, ok)
			}
		}
		holds(t, "of that length", trace, row(length))
	}
}

// TestAllMemory: R2, All's answer is new memory, spare room too: neither the trace
// nor another answer has any of it.
func TestAllMemory(t *testing.T) {
	for length := range 40 {
		trace := made(t, row(length)...)
		first, second := trace.All(), trace.All()
		room := first[:cap(first)]
		for i := range room {
			room[i] = api.Event{What: spare}
		}
		if !slices.Equal(second, row(length)) {
			t.Errorf("R2: two answers of %d events share memory", length)
		}
		holds(t, "behind a turned answer", trace, row(length))
		add(t, trace, event(length))
		for i, e := range room {
			if e.What != spare {
				t.Errorf("R2: Add turned place %d of an answer of %d events", i, length)
			}
		}
		holds(t, "behind Add", trace, row(length+1))
		trace.Clear()
		add(t, trace, event(length))
		if !slices.Equal(second, row(length)) {
			t.Errorf("R2: Clear, or Add, turned an answer of %d events", length)
		}
	}
}

// TestClear: 10.1, none are left, and what is added then is the first again.
func TestClear(t *testing.T) {
	trace := made(t)
	for _, length := range []int{0, 1, 2, 100, 3, 0} {
		for _, e := range row(length) {
			add(t, trace, e)
		}
		for range 2 {
			trace.Clear()
			holds(t, "behind Clear", trace, nil)
			parts(t, "behind Clear", trace, made(t), -1)
		}
	}
	add(t, trace, event(9))
	holds(t, "added behind Clear", trace, []api.Event{event(9)})
}

// TestClearFull: 10.1, what was full has all its room again.
func TestClearFull(t *testing.T) {
	trace, want := full(t)
	trace.Clear()
	holds(t, "cleared", trace, nil)
	for _, e := range want {
		add(t, trace, e)
	}
	if trace.Add(leak.Step, 0, 0, 0) {
		t.Error("10.1: Add to one that is full again: true")
	}
	holds(t, "full again", trace, want)
}

// TestSameAlike: 10.1, as long as one another, and alike: -1, of one with itself
// too.
func TestSameAlike(t *testing.T) {
	for length := range 40 {
		a := made(t, row(length)...)
		parts(t, "alike", a, made(t, row(length)...), -1)
		parts(t, "with itself", a, a, -1)
	}
}

// TestSamePlace: 10.1, the first place at which they part, whatever comes behind
// it, and whichever of the four numbers parts them.
func TestSamePlace(t *testing.T) {
	const length = 12
	turns := []api.Event{{What: 1}, {A: 1}, {B: 1}, {C: 1}, {What: 1 << 32}, {A: 1 << 32}, {B: 1 << 32}, {C: 1 << 32}, {A: 1, B: -1}}
	for at := range length {
		for _, turn := range turns {
			for behind := range 3 {
				turned := row(length + behind)
				e := &turned[at]
				*e = api.Event{What: e.What + turn.What, A: e.A + turn.A, B: e.B + turn.B, C: e.C + turn.C}
				turned[length-1].C += behind
				parts(t, "one turned", made(t, row(length)...), made(t, turned...), at)
			}
		}
	}
}

// TestSameEnds: 10.1, where one ends: its length, of two of any lengths.
func TestSameEnds(t *testing.T) {
	for short := range 20 {
		for long := short + 1; long < 22; long++ {
			parts(t, "one ends", made(t, row(short)...), made(t, row(long)...), short)
		}
	}
	zeros := make([]api.Event, 5)
	parts(t, "events of zeros are there", made(t, zeros[:3]...), made(t, zeros...), 3)
}

// TestSameFull: 10.1, the longest traces, alike, and parted at their last event.
func TestSameFull(t *testing.T) {
	a, want := full(t)
	b, _ := full(t)
	parts(t, "full", a, b, -1)
	parts(t, "full, and empty", a, made(t), 0)
	c := made(t, want[:api.MaxTrace-1]...)
	parts(t, "one short of full", a, c, api.MaxTrace-1)
	add(t, c, api.Event{})
	parts(t, "the last turned", a, c, api.MaxTrace-1)
}

// TestSameNone: 10.1, a nil trace is as an empty one.
func TestSameNone(t *testing.T) {
	parts(t, "two nil ones", nil, nil, -1)
	parts(t, "nil, and new", nil, made(t), -1)
	parts(t, "nil, and one event", nil, made(t, event(0)), 0)
	parts(t, "nil, and one event of zeros", nil, made(t, api.Event{}), 0)
	cleared := made(t, row(5)...)
	cleared.Clear()
	parts(t, "nil, and cleared", nil, cleared, -1)
}

// TestSameTurnsNothing: R2, both traces are as they were.
func TestSameTurnsNothing(t *testing.T) {
	a, b := made(t, row(5)...), made(t, row(8)...)
	parts(t, "one ends", a, b, 5)
	holds(t, "behind Same", a, row(5))
	holds(t, "behind Same", b, row(8))
}

// TestNil: R1, no call of a nil trace panics: it is empty, and has no room.
func TestNil(t *testing.T) {
	trace := (*leak.Trace)(nil)
	if trace.Add(leak.Step, 1, 2, 3) {
		t.Error("R1: Add to a nil one: true")
	}
	trace.Clear()
	holds(t, "nil", trace, nil)
}

// parting answers what Same must, worked out apart from the package.
func parting(one, other []api.Event) int {
	for at := 0; ; at++ {
		switch {
		case at == len(one) && at == len(other):
			return -1
		case at == len(one), at == len(other), one[at] != other[at]:
			return at
		}
	}
}

// TestByDice: 10.1, R4 and R7, calls by a fixed rule on two traces, each held
// against a diary of its own.
func TestByDice(t *testing.T) {
	for start := range 100 {
		dice := sample.NewDice(uint64(start))
		traces := [2]*leak.Trace{made(t), made(t)}
		diaries := [2][]api.Event{}
		for range 100 {
			k := dice.UpTo(1)
			e := api.Event{What: 1 + dice.UpTo(1), A: dice.UpTo(1)}
			switch dice.UpTo(20) {
			case 0:
				traces[k].Clear()
				diaries[k] = nil
			case 1, 2, 3, 4:
				add(t, traces[k], e)
				diaries[k] = append(diaries[k], e)
			default:
				add(t, traces[0], e)
				add(t, traces[1], e)
				diaries[0], diaries[1] = append(diaries[0], e), append(diaries[1], e)
			}
			holds(t, "by dice", traces[k], diaries[k])
			parts(t, "by dice", traces[0], traces[1], parting(diaries[0], diaries[1]))
		}
	}
}
