package link_test

import (
	"math"
	"slices"
	"strings"
	"testing"

	"taciturn/api"
	"taciturn/image"
	"taciturn/link"
	"taciturn/sample"
)

// far are places and numbers that no list has, though some have the lowest bits of
// one that a list has.
func far() []int {
	return []int{math.MinInt, math.MinInt + 1, -1 << 32, -1<<32 + 1, -2, -1, 1 << 8, 1<<8 + 1, 1<<32 - 1, 1 << 32, 1<<32 + 1, math.MaxInt}
}

// named answers images of those names that have nothing else.
func named(names ...string) []api.Image {
	all := []api.Image(nil)
	for _, name := range names {
		all = append(all, api.Image{Name: name})
	}
	return all
}

// pair answers a caller with one import, and one that exports a method which just
// fits it: the caller's import 0 is image 1's method 2.
func pair() []api.Image {
	return []api.Image{
		{Name: "caller", Imports: []api.Import{{Name: "callee", Export: 1, Params: []int{api.PubInt, api.SecArr}, Result: api.SecInt}}, Methods: []api.Method{{}}},
		{Name: "callee", Methods: []api.Method{{}, {}, {Params: []int{api.PubInt, api.SecArr}, Result: api.SecInt}}, Exports: []int{0, 2}},
	}
}

// resolves holds what Resolve answers.
func resolves(t *testing.T, when string, l []api.Image, applet, k, to, method int) {
	t.Helper()
	if gotTo, gotMethod, ok := link.Resolve(l, applet, k); gotTo != to || gotMethod != method || !ok {
		t.Errorf("11.1: %s: Resolve(%d, %d): %d, %d, %t, not %d, %d", when, applet, k, gotTo, gotMethod, ok, to, method)
	}
}

// refuses holds that Resolve answers that there is none, and nothing beside it.
func refuses(t *testing.T, when string, l []api.Image, applet, k int) {
	t.Helper()
	if to, method, ok := link.Resolve(l, applet, k); to != 0 || method != 0 || ok {
		t.Errorf("11.1: %s: Resolve(%d, %d): %d, %d, %t, not 0, 0, false", when, applet, k, to, method, ok)
	}
}

// finds holds what Find answers.
func finds(t *testing.T, l []api.Image, name string, want int) {
	t.Helper()
	if got := link.Find(l, name); got != want {
		t.Errorf("11.1: Find(%q): %d, not %d", name, got, want)
	}
}

// TestExample: the chapter's row.
func TestExample(t *testing.T) {
	refuses(t, "an import that is none", pair(), 0, 1)
	refuses(t, "an import that is none", pair(), 1, 0)
	refuses(t, "an import that is none", []api.Image{sample.Least()}, 0, 0)
}

// TestFind: 11.1, the first image of a name, wherever it stands.
func TestFind(t *testing.T) {
	l := named("pin", "log", "pin", "a", "log", "\u00e9")
	for name, want := range map[string]int{"pin": 0, "log": 1, "a": 3, "\u00e9": 5, "b": -1} {
		finds(t, l, name, want)
	}
	for from := range l {
		finds(t, l[from:], "log", []int{1, 0, 2, 1, 0, -1}[from])
	}
}

// TestFindNone: 11.1, -1 where there are no images, or none of that name.
func TestFindNone(t *testing.T) {
	for _, name := range []string{"", "a", "pin", "\xff"} {
		finds(t, nil, name, -1)
		finds(t, []api.Image{}, name, -1)
		finds(t, named("b", "c"), name, -1)
	}
}

// TestFindWhole: 11.1, names are held against one another whole, byte by byte, what
// is no name included: none is found in the place of another one.
func TestFindWhole(t *testing.T) {
	names := []string{"pin", "pi", "p", "pin-1", "pin-", "-pin", "in", "Pin", "PIN", "pin ", " pin", "pin\x00", "",
		"\u00e9", "e", "e\u0301", "\u00e8", "\xc3", "\xa9", "\xe9", "\xff", "\ufffd", "\u00ff",
		strings.Repeat("z", api.MaxName), strings.Repeat("z", api.MaxName-1), strings.Repeat("z", api.MaxName+1), strings.Repeat("z", 1<<9)}
	for n, name := range names {
		finds(t, named(names...), name, n)
		finds(t, named(append(slices.Clone(names[:n]), names[n+1:]...)...), name, -1)
	}
}

// TestResolve: 11.1, imports of one, of several, of oneself, and exports that stand
// otherwise than their methods.
func TestResolve(t *testing.T) {
	l := []api.Image{
		{Name: "a", Imports: []api.Import{{Name: "b", Export: 3}, {Name: "c"}, {Name: "b", Export: 1, Result: api.SecInt}, {Name: "a", Export: 1, Params: []int{api.PubInt}}},
			Methods: []api.Method{{}, {Params: []int{api.PubInt}}}, Exports: []int{0, 1}},
		{Name: "b", Imports: []api.Import{{Name: "a"}, {Name: "b", Export: 0, Result: api.SecInt}},
			Methods: []api.Method{{}, {}, {Result: api.SecInt}}, Exports: []int{2, 2, 0, 1}},
		{Name: "c", Methods: []api.Method{{}}, Exports: []int{0}},
	}
	rows := []struct{ applet, k, to, method int }{
		{0, 0, 1, 1}, {0, 1, 2, 0}, {0, 2, 1, 2}, {0, 3, 0, 1}, {1, 0, 0, 0}, {1, 1, 1, 2},
	}
	for _, r := range rows {
		resolves(t, "some of three images", l, r.applet, r.k, r.to, r.method)
	}
	resolves(t, "a pair", pair(), 0, 0, 1, 2)
}

// TestResolveMost: 11.1, images that have as much of each part as there may be: all
// exports of the last one, by all imports of each.
func TestResolveMost(t *testing.T) {
	l := slices.Repeat([]api.Image{sample.Most()}, api.MaxApplets-1)
	last := sample.Most()
	last.Name = strings.Repeat("z", api.MaxName)
	for k := range last.Exports {
		last.Exports[k] = api.MaxMethods - 1 - k
		m := l[0].Imports[len(last.Exports)-1-k]
		last.Methods[last.Exports[k]].Params, last.Methods[last.Exports[k]].Result = m.Params, m.Result
	}
	l = append(l, last)
	for applet := range l {
		for k, m := range l[applet].Imports {
			resolves(t, "all that there may be", l, applet, k, len(l)-1, last.Exports[m.Export])
		}
		refuses(t, "an import past the last", l, applet, api.MaxImports)
	}
}

// TestAppletNone: 11.1 and R5, an applet that is none.
func TestAppletNone(t *testing.T) {
	l := slices.Repeat([]api.Image{pair()[0], pair()[1]}, 2)
	for _, applet := range append(far(), len(l), len(l)+1) {
		for k := range api.MaxImports {
			refuses(t, "an applet that is none", l, applet, k)
		}
		refuses(t, "no images", nil, applet, 0)
	}
	refuses(t, "no images", nil, 0, 0)
	refuses(t, "no images", []api.Image{}, 0, 0)
}

// TestImportNone: 11.1 and R5, an import that is none, though the empty name and
// the first export would lead to a method.
func TestImportNone(t *testing.T) {
	l := []api.Image{{Name: "", Methods: []api.Method{{}}, Exports: []int{0}, Imports: []api.Import{{}}}}
	resolves(t, "an import of zeros", l, 0, 0, 0, 0)
	for _, k := range append(far(), 1, 2) {
		refuses(t, "an import that is none", l, 0, k)
		refuses(t, "an applet that is none too", l, k, k)
		refuses(t, "an applet that is none", l, k, 0)
	}
}

// TestImageNone: 11.1, no image of the import's name: one that nearly has it does
// not do in its place.
func TestImageNone(t *testing.T) {
	for _, name := range []string{"", "calle", "callee1", "Callee", "caller", "callee\x00"} {
		l := pair()
		l[0].Imports[0].Name = name
		refuses(t, "an image that is none", l, 0, 0)
		l = pair()
		l[1].Name = name
		refuses(t, "an image that is none", l, 0, 0)
	}
	refuses(t, "the caller alone", pair()[:1], 0, 0)
}

// TestFirstOfName: 11.1, the image is the one that Find tells of, even where just
// a later one of that name would do.
func TestFirstOfName(t *testing.T) {
	l := pair()
	resolves(t, "a later one of that name", append(l, named("callee")...), 0, 0, 1, 2)
	refuses(t, "a first one without exports", append(named("callee"), l...), 1, 0)
	resolves(t, "a first one that does", append([]api.Image{l[1]}, l...), 1, 0, 0, 2)
	other := pair()[1]
	other.Exports = []int{2, 0}
	refuses(t, "a first one with other exports", []api.Image{l[0], other, l[1]}, 0, 0)
}

// TestExportNone: 11.1 and R5, an export that is none.
func TestExportNone(t *testing.T) {
	for _, export := range append(far(), 2, 3, api.MaxExports) {
		l := pair()
		l[0].Imports[0].Export = export
		refuses(t, "an export that is none", l, 0, 0)
	}
	for n := range 2 {
		l := pair()
		l[1].Exports = l[1].Exports[:n]
		refuses(t, "too few exports", l, 0, 0)
	}
}

// TestExportSpare: 11.1 and R5, what stands in a list's spare room is none.
func TestExportSpare(t *testing.T) {
	whole := pair()
	for _, cut := range []func(l []api.Image) []api.Image{
		func(l []api.Image) []api.Image { return l[:1] },
		func(l []api.Image) []api.Image { l[0].Imports = l[0].Imports[:0]; return l },
		func(l []api.Image) []api.Image { l[1].Exports = l[1].Exports[:1]; return l },
		func(l []api.Image) []api.Image { l[1].Methods = l[1].Methods[:2]; return l },
	} {
		refuses(t, "what is in spare room", cut(pair()), 0, 0)
	}
	resolves(t, "all of it", whole, 0, 0, 1, 2)
}

// TestMethodNone: 11.1 and R5, an export that tells of a method that is none.
func TestMethodNone(t *testing.T) {
	for _, method := range append(far(), 3, 4, api.MaxMethods) {
		l := pair()
		l[1].Exports[1] = method
		refuses(t, "a method that is none", l, 0, 0)
		l[0].Imports[0].Params, l[0].Imports[0].Result = nil, 0
		refuses(t, "a method that is none, asked for with nothing", l, 0, 0)
	}
	l := pair()
	l[1].Methods = nil
	refuses(t, "no methods", l, 0, 0)
}

// rows answers lists of params: all of at most two kinds, and some longer ones.
func rows() [][]int {
	all := [][]int{nil, {}}
	for first := api.PubInt; first <= api.SecArr; first++ {
		all = append(all, []int{first})
		for second := api.PubInt; second <= api.SecArr; second++ {
			all = append(all, []int{first, second})
		}
	}
	return append(all, []int{0}, []int{1, 2, 3}, []int{3, 2, 1}, []int{1, 2, 3, 4}, []int{1, 2, 3, 3}, []int{2, 2, 3, 4}, []int{1, 3, 2, 4}, []int{1, 2, 3, 4, 0})
}

// spelled answers a list of params as a text: lists are alike where their texts are.
func spelled(params []int) string {
	s := ""
	for _, kind := range params {
		s += string(rune('0' + kind))
	}
	return s
}

// TestParams: 11.1, just the import's params: as many, each the same, in that order;
// no params are no params, be the list nil or empty.
func TestParams(t *testing.T) {
	for _, asked := range rows() {
		for _, has := range rows() {
			l := pair()
			l[0].Imports[0].Params, l[1].Methods[2].Params = asked, has
			if spelled(asked) == spelled(has) {
				resolves(t, "params "+spelled(asked), l, 0, 0, 1, 2)
			} else {
				refuses(t, "params "+spelled(asked)+" of "+spelled(has), l, 0, 0)
			}
		}
	}
}

// TestResult: 11.1, just the import's result: none for none, and no kind for
// another one, though one may stand for it elsewhere.
func TestResult(t *testing.T) {
	results := append(far(), 0, api.PubInt, api.SecInt, api.PubArr, api.SecArr, 5)
	for _, asked := range results {
		for _, has := range results {
			l := pair()
			l[0].Imports[0].Result, l[1].Methods[2].Result = asked, has
			if asked == has {
				resolves(t, "the same result", l, 0, 0, 1, 2)
			} else {
				refuses(t, "another result", l, 0, 0)
			}
		}
	}
}

// TestElsewhere: 11.1, what stands in parts that are not asked for decides nothing:
// fields, locals, code, other imports and exports.
func TestElsewhere(t *testing.T) {
	l := pair()
	l[0].Fields, l[1].Fields = []int{9}, []int{1, -1}
	l[0].Exports, l[0].Methods = []int{99}, nil
	l[0].Imports = append(l[0].Imports, api.Import{Name: "x", Export: -1})
	l[1].Exports = append(l[1].Exports, -1, 99)
	l[1].Exports[0] = -1
	l[1].Imports = []api.Import{{Name: "callee", Export: 9}}
	l[1].Methods[2].Locals, l[1].Methods[2].Code = []int{7}, []api.Instr{{Op: 99}}
	l[1].Methods[0], l[1].Methods[1] = api.Method{Result: 9}, api.Method{Params: []int{9, 9}}
	resolves(t, "other parts that are wrong", l, 0, 0, 1, 2)
	refuses(t, "an import that is wrong", l, 0, 1)
	refuses(t, "an import that is wrong", l, 1, 0)
}

// TestKeepsImages: R2, what is handed in is not changed, its spare room included.
func TestKeepsImages(t *testing.T) {
	one, isWhole := sample.Roomy()
	two, isWholeToo := sample.Roomy()
	l := append([]api.Image{one, two}, api.Image{Name: "spare"})
	for applet := range 3 {
		for k := range 3 {
			link.Resolve(l[:2], applet, k)
		}
	}
	link.Find(l[:2], one.Name)
	link.Find(l[:2], "spare")
	if !isWhole() || !isWholeToo() || l[2].Name != "spare" || !image.Same(l[0], one) || !image.Same(l[1], two) {
		t.Error("R2: an image is turned")
	}
}

// first answers the place of the first of that name; how many there are, if none
// has it. It looks from the end, and keeps the last that it sees.
func first(l []api.Image, name string) int {
	place := len(l)
	for n := len(l) - 1; n >= 0; n-- {
		if strings.Compare(l[n].Name, name) == 0 {
			place = n
		}
	}
	return place
}

// walked answers what Resolve is to answer, part by part.
func walked(l []api.Image, applet, k int) (to, method int, ok bool) {
	if applet < 0 || applet >= len(l) || k < 0 || k >= len(l[applet].Imports) {
		return 0, 0, false
	}
	m := l[applet].Imports[k]
	n := first(l, m.Name)
	if n == len(l) || m.Export < 0 || m.Export >= len(l[n].Exports) {
		return 0, 0, false
	}
	number := l[n].Exports[m.Export]
	if number < 0 || number >= len(l[n].Methods) {
		return 0, 0, false
	}
	has := l[n].Methods[number]
	if spelled(has.Params) != spelled(m.Params) || has.Result != m.Result {
		return 0, 0, false
	}
	return n, number, true
}

// made answers images by a fixed rule: few names, and imports that often are of
// what there is, now and then turned in one part.
func made(dice *sample.Dice) []api.Image {
	l := []api.Image(nil)
	for range 1 + dice.UpTo(api.MaxApplets) {
		i := dice.Image()
		i.Name = dice.OneOf("a", "b", "c", "aa", "")
		l = append(l, i)
	}
	for n := range l {
		for k := range l[n].Imports {
			aim(dice, l, &l[n].Imports[k])
		}
	}
	for n := range l {
		for k := range l[n].Exports {
			if dice.UpTo(9) == 0 {
				l[n].Exports[k] = dice.UpTo(12) - 2
			}
		}
	}
	return l
}

// aim turns an import into one of what there is, or nearly so.
func aim(dice *sample.Dice, l []api.Image, m *api.Import) {
	i := l[dice.UpTo(len(l)-1)]
	m.Name = i.Name
	if len(i.Exports) == 0 {
		return
	}
	m.Export = dice.UpTo(len(i.Exports) - 1)
	method := i.Methods[i.Exports[m.Export]]
	m.Params, m.Result = slices.Clone(method.Params), method.Result
	switch dice.UpTo(9) {
	case 0:
		m.Name = dice.OneOf("a", "b", "d", "A", "")
	case 1:
		m.Export = dice.UpTo(6) - 1
	case 2:
		m.Params = dice.Kinds(api.MaxParams)
	case 3:
		m.Result = dice.UpTo(api.SecArr)
	}
}

// TestByDice: 11.1, R2 and R4, images and calls by a fixed rule, held against a walk
// written down apart; and among them are many of both answers.
func TestByDice(t *testing.T) {
	there, none := 0, 0
	for start := range 400 {
		l := made(sample.NewDice(uint64(start)))
		for applet := -1; applet <= len(l); applet++ {
			for k := -1; k <= api.MaxImports; k++ {
				to, method, ok := walked(l, applet, k)
				if ok {
					there++
					resolves(t, "by dice", l, applet, k, to, method)
				} else {
					none++
					refuses(t, "by dice", l, applet, k)
				}
			}
		}
		for _, name := range []string{"a", "b", "c", "aa", "", "d", "A"} {
			want := first(l, name)
			if want == len(l) {
				want = -1
			}
			finds(t, l, name, want)
		}
		if again := made(sample.NewDice(uint64(start))); !slices.EqualFunc(l, again, image.Same) {
			t.Fatalf("R2: images of start %d are turned", start)
		}
	}
	if there < 500 || none < 500 {
		t.Errorf("11.1: %d that are, and %d that are none, are too few to tell", there, none)
	}
}
