package text_test

import (
	"go/ast"
	"go/parser"
	"go/token"
	"math"
	"regexp"
	"runtime"
	"slices"
	"strconv"
	"strings"
	"testing"
	"unicode/utf8"
	"unsafe"

	"taciturn/api"
	"taciturn/code"
	"taciturn/image"
	"taciturn/sample"
	"taciturn/text"
)

// leastText is sample.Least's.
const leastText = "applet a\nmethod none\n  ret\n"

// someText is sample.Some's, as it is printed.
const someText = "applet pin-1.\u00e9\n" +
	"field sec\nfield puba\n" +
	"import log 3 sec pub seca\nimport pin-1.\u00e9 0 none\n" +
	"method none\nlocals seca pub\n  push -5\n  jumpif 2\n  ret\n" +
	"method puba sec\n  new 3 6\n  ret\n" +
	"export 1\nexport 0\nexport 1\n"

// mostText is sample.Most's.
func mostText() string {
	s := "applet " + strings.Repeat("\u00ff", 8) + "\n"
	for _, kind := range []string{"seca", "puba", "sec", "pub", "seca", "puba", "sec", "pub"} {
		s += "field " + kind + "\n"
	}
	s += "import zzzzzzzzzzzzzzzz 3 pub seca puba sec pub\nimport zzzzzzzzzzzzzzzz 2 sec seca puba sec pub\n"
	s += "import zzzzzzzzzzzzzzzz 1 puba seca puba sec pub\nimport zzzzzzzzzzzzzzzz 0 seca seca puba sec pub\n"
	s += "method none\nlocals seca puba sec pub seca puba sec pub seca puba\n" + strings.Repeat("  push -2147483648\n", 120)
	for n := range 7 {
		s += "method seca seca puba sec pub\nlocals seca puba sec pub seca puba\n"
		s += strings.Repeat("  push "+strconv.Itoa(math.MinInt32+n+1)+"\n", 120)
	}
	return s + "export 7\nexport 7\nexport 0\nexport 6\n"
}

// isNone tells whether i is the zero value.
func isNone(i api.Image) bool {
	return i.Name == "" && i.Fields == nil && i.Imports == nil && i.Methods == nil && i.Exports == nil
}

// refused checks that Parse answers ErrForm of s, the line, and no image.
func refused(t *testing.T, s string, line int) {
	t.Helper()
	if i, n, e := text.Parse(s); e != api.ErrForm || n != line || !isNone(i) {
		t.Errorf("5.2: Parse(%.200q): %+v, line %d, not %d, %d", s, i, n, line, e)
	}
}

// taken checks that Parse answers want of s.
func taken(t *testing.T, s string, want api.Image) {
	t.Helper()
	if i, n, e := text.Parse(s); e != api.OK || n != 0 || !image.Same(i, want) {
		t.Errorf("5.2: Parse(%.200q): %+v, line %d, %d", s, i, n, e)
	}
}

// TestKindName: 5.1, 0 and the kinds; nothing of others.
func TestKindName(t *testing.T) {
	names := []string{"none", "pub", "sec", "puba", "seca"}
	for kind := -300; kind <= 300; kind++ {
		want := ""
		if 0 <= kind && kind < len(names) {
			want = names[kind]
		}
		if got := text.KindName(kind); got != want {
			t.Errorf("5.1: KindName(%d): %q", kind, got)
		}
	}
	for _, kind := range []int{math.MinInt, math.MinInt32, math.MaxInt32, math.MaxInt, 1<<32 + 1} {
		if got := text.KindName(kind); got != "" {
			t.Errorf("5.1: KindName(%d): %q", kind, got)
		}
	}
	for kind, name := range names {
		if got := text.Kind(name); got != kind {
			t.Errorf("5.1: Kind(%q): %d", name, got)
		}
	}
}

// TestKind: 5.1, -1 of what is no kind's word.
func TestKind(t *testing.T) {
	for _, name := range []string{"", " ", "x", "Pub", "PUB", "pu", "pubs", "pubaa", "puba ", " pub", "pub\n", "se", "sec\x00", "None", "non", "0", "1", "push", "pub sec", "p\u00fcb", "\xff", "seca\xff"} {
		if got := text.Kind(name); got != -1 {
			t.Errorf("5.1: Kind(%q): %d", name, got)
		}
	}
}

// TestPrint: 5.1, the lines, one by one.
func TestPrint(t *testing.T) {
	cases := []struct {
		i    api.Image
		want string
	}{{sample.Least(), leastText}, {sample.Some(), someText}, {sample.Most(), mostText()}}
	for _, c := range cases {
		if s, e := text.Print(c.i); e != api.OK || s != c.want {
			t.Errorf("5.1: %q, %d, not %q", s, e, c.want)
		}
		taken(t, c.want, c.i)
	}
}

// TestInstructions: 5.1 and 5.2, each instruction: its word, and what it uses;
// with a word less or more it is none.
func TestInstructions(t *testing.T) {
	for op := code.Push; op <= code.Ret; op++ {
		i, words := api.Instr{Op: op}, code.Name(op)
		switch {
		case op == code.New:
			i.A, i.B, words = api.SecArr, 5, words+" 4 5"
		case op == code.Null:
			i.A, words = api.PubArr, words+" 3"
		case code.Operands(op) > 0:
			i.A, words = 1, words+" 1"
		}
		want := sample.Least()
		want.Methods[0].Code = []api.Instr{i}
		s := "applet a\nmethod none\n  " + words + "\n"
		if got, e := text.Print(want); e != api.OK || got != s {
			t.Errorf("5.1: %+v: %q, %d", i, got, e)
		}
		taken(t, s, want)
		refused(t, "applet a\nmethod none\n"+words+" 1\n", 3)
		refused(t, "applet a\nmethod none\n"+words+" pub\n", 3)
		for end := strings.LastIndex(words, " "); end > 0; end = strings.LastIndex(words[:end], " ") {
			refused(t, "applet a\nmethod none\n"+words[:end]+"\n", 3)
		}
		refused(t, "applet a\nmethod none\n"+strings.ToUpper(words)+"\n", 3)
		refused(t, "applet a\n"+words+"\n", 2)
		refused(t, words+"\n", 1)
	}
}

// TestExample: the chapter's.
func TestExample(t *testing.T) {
	i, _, e := text.Parse("applet a\nmethod none\npush -5\nret\n")
	if e != api.OK || len(i.Methods) != 1 || i.Methods[0].Code[0] != (api.Instr{Op: code.Push, A: -5}) {
		t.Errorf("5, its example: %+v, %d", i, e)
	}
	s, e := text.Print(i)
	if e != api.OK || !strings.Contains(s, "\n  push -5\n") {
		t.Errorf("5, its example: %q, %d", s, e)
	}
}

// TestPrintWrong: 5.1, ErrArg of what is not right, and no text.
func TestPrintWrong(t *testing.T) {
	turns := []func(i *api.Image){
		func(i *api.Image) { *i = api.Image{} },
		func(i *api.Image) { i.Name = "" },
		func(i *api.Image) { i.Name = "Pin" },
		func(i *api.Image) { i.Name = "a b" },
		func(i *api.Image) { i.Name = "a\xe9" },
		func(i *api.Image) { i.Fields[1] = 0 },
		func(i *api.Image) { i.Fields[0] = 5 },
		func(i *api.Image) { i.Fields = slices.Repeat(i.Fields, 5) },
		func(i *api.Image) { i.Imports[1].Name = "#" },
		func(i *api.Image) { i.Imports[1].Export = -1 },
		func(i *api.Image) { i.Imports[0].Params[0] = 0 },
		func(i *api.Image) { i.Imports[0].Result = -1 },
		func(i *api.Image) { i.Methods, i.Exports = nil, nil },
		func(i *api.Image) { i.Methods[0].Result = api.PubInt },
		func(i *api.Image) { i.Methods[1].Locals = slices.Repeat([]int{1}, 10) },
		func(i *api.Image) { i.Methods[1].Code = nil },
		func(i *api.Image) { i.Methods[0].Code[2].Op = 0 },
		func(i *api.Image) { i.Methods[0].Code[2].A = 1 },
		func(i *api.Image) { i.Methods[0].Code[0].A = math.MaxInt32 + 1 },
		func(i *api.Image) { i.Methods[1].Code[0].B = 3 },
		func(i *api.Image) { i.Exports[2] = 2 },
		func(i *api.Image) { i.Exports[0] = -1 },
	}
	for n, turn := range turns {
		i := sample.Some()
		turn(&i)
		if s, e := text.Print(i); e != api.ErrArg || s != "" {
			t.Errorf("5.1: turn %d: %q, %d", n, s, e)
		}
	}
}

// TestBlanks: 5.2, one or more between words, ahead and behind; nothing else
// parts words.
func TestBlanks(t *testing.T) {
	taken(t, "applet a\nmethod none\nret\n", sample.Least())
	taken(t, "  applet  a  \n   method   none   \n ret \n", sample.Least())
	wide := strings.ReplaceAll(strings.ReplaceAll(someText, " ", "    "), "\n", "  \n ")
	taken(t, wide, sample.Some())
	taken(t, strings.ReplaceAll(someText, "\n  ", "\n"), sample.Some())
	for _, r := range []string{"\t", "\r", "\v", "\f", "\u00a0", "\u0085", "\u2028", "\u3000", "\x00", ",", "\\n"} {
		refused(t, "applet"+r+"a\nmethod none\nret\n", 1)
		refused(t, r+"applet a\nmethod none\nret\n", 1)
		refused(t, "applet a"+r+"\nmethod none\nret\n", 1)
		refused(t, "applet a\nmethod none"+r+"\nret\n", 2)
		refused(t, "applet a\nmethod "+r+" none\nret\n", 2)
		refused(t, "applet a\nmethod none\nret"+r+"\n", 3)
		refused(t, "applet a\nmethod none\nret\n"+r, 4)
	}
}

// TestLines: 5.2, which lines there are, and that those without words are
// passed over, but counted.
func TestLines(t *testing.T) {
	taken(t, "applet a\nmethod none\nret", sample.Least())
	taken(t, "\n\n \napplet a\n\n     \nmethod none\n\nret\n\n\n", sample.Least())
	taken(t, strings.ReplaceAll(someText, "\n", "\n\n"), sample.Some())
	taken(t, "applet a\nmethod none\n\nlocals pub\n\nret\n", func() api.Image {
		i := sample.Least()
		i.Methods[0].Locals = []int{api.PubInt}
		return i
	}())
	ends := []struct {
		s    string
		line int
	}{
		{"", 1}, {"\n", 2}, {"\n\n", 3}, {" ", 2}, {" \n", 2}, {"\n ", 3}, {"#", 2}, {"#\n", 2}, {"\n#", 3},
		{"applet a", 2}, {"applet a\n", 2}, {"applet a\n\n", 3}, {"applet a\n ", 3}, {"applet a\n#x", 3}, {"\n\napplet a", 4},
		{"x", 1}, {"x\n", 1}, {"\nx", 2}, {"\n \n#\nx\ny\n", 4}, {"applet a\n\nx\n\n", 3}, {"applet a\n\n\n x", 4},
	}
	for _, c := range ends {
		refused(t, c.s, c.line)
	}
}

// TestRemarks: 5.2, from a # on the line is passed over, and no more than it.
func TestRemarks(t *testing.T) {
	taken(t, "# first\napplet a# its name\nmethod none #\nret#ret\n#", sample.Least())
	taken(t, "###\napplet a # # b\nmethod none#pub\n  #ret\n ret   #\tx\xff\xfe\n# export 9", sample.Least())
	taken(t, strings.ReplaceAll(someText, "\n", "#\u00e9\xc3\n"), sample.Some())
	refused(t, "#applet a\nmethod none\nret\n", 2)
	refused(t, "applet #a\nmethod none\nret\n", 1)
	refused(t, "applet a\nmethod #none\nret\n", 2)
	refused(t, "applet a\nmethod none\npush #5\nret\n", 3)
	refused(t, "applet a\nmethod none\nlocals #pub\nret\n", 3)
	refused(t, "applet a\nmethod none\n#ret\n", 4)
	refused(t, "applet a\nme#thod none\nret\n", 2)
	refused(t, "applet a;method none\nret\n", 1)
}

// beginnings are a text's for each place: what stands there last, with the lines
// that may come next.
func beginnings() map[string][]string {
	return map[string][]string{
		"":                                       {"applet"},
		"applet a\n":                             {"field", "import", "method"},
		"applet a\nfield pub\n":                  {"field", "import", "method"},
		"applet a\nimport b 0 none\n":            {"import", "method"},
		"applet a\nmethod none\n":                {"locals", "method", "ret", "export"},
		"applet a\nmethod none\nlocals pub\n":    {"method", "ret", "export"},
		"applet a\nmethod none\nret\n":           {"method", "ret", "export"},
		"applet a\nmethod none\nret\nexport 0\n": {"export"},
	}
}

// TestPlaces: 5.2, at each place each line: it may come next, or is the wrong one.
func TestPlaces(t *testing.T) {
	all := map[string]string{
		"applet": "applet a", "field": "field pub", "import": "import b 0 none", "method": "method none",
		"locals": "locals pub", "ret": "ret", "export": "export 0", "what": "what", "0": "0", "none": "none",
	}
	for begin, may := range beginnings() {
		for word, line := range all {
			at := strings.Count(begin, "\n") + 1
			_, n, _ := text.Parse(begin + line + "\nwhat\n")
			want := at
			if slices.Contains(may, word) {
				want = at + 1
			}
			if n != want {
				t.Errorf("5.2: %q behind %q: line %d, not %d", line, begin, n, want)
			}
			_, n, _ = text.Parse(begin + "\n \n# x\n" + line + "\nwhat\n")
			if n != want+3 {
				t.Errorf("5.2: %q behind %q, lines without words between: line %d, not %d", line, begin, n, want+3)
			}
		}
	}
}

// TestWords: 5.2, too few words, too many, and those that are none at their place.
func TestWords(t *testing.T) {
	cases := []struct {
		begin string
		lines []string
	}{
		{"", []string{"applet", "applet a b", "applet a a", "applet applet a", "applet none 0"}},
		{"applet a\n", []string{
			"field", "field pub sec", "field none", "field a", "field 1", "field pub none", "field pub pub", "fields pub", "Field pub",
			"import", "import b", "import b 0", "import b none", "import 0 b none", "import b 0 0", "import b 0 none none", "import b 0 none pub none",
			"import b 0 x", "import b 0 none x", "import b none 0", "import b 0 none pub 0", "import b c 0 none", "import b 0 pub what seca", "imports b 0 none",
			"method", "method x", "method 0", "method none none", "method none x", "method pub sec none", "method none pub 1", "method pub what sec", "methods none",
		}},
		{"applet a\nmethod none\n", []string{
			"locals", "locals none", "locals x", "locals 1", "locals pub none", "locals none pub", "locals pub sec x", "local pub",
			"export", "export x", "export pub", "export 0 0", "export none", "exports 0", "export 0 none", "export a",
			"push", "push x", "push 1 2", "push none", "push pub", "new", "new 3", "new pub 0", "new 3 x", "new x 3", "new 3 0 0", "ret none", "null puba",
			"what", "0", "-5", "push5", "pushpop", "push 5 pop", "pop push 5", "push, 5", "push -", "push --5", "push - 5",
		}},
	}
	for _, c := range cases {
		for _, line := range c.lines {
			at := strings.Count(c.begin, "\n") + 1
			refused(t, c.begin+line, at)
			refused(t, c.begin+line+"\n", at)
			refused(t, c.begin+"  "+line+"  # what\n", at)
			refused(t, c.begin+line+"\nwhat\nret\n", at)
			refused(t, c.begin+"\n\n"+line+"\n", at+2)
		}
	}
}

// mayStand tells whether the document lets a name have r.
func mayStand(r rune) bool {
	return 'a' <= r && r <= 'z' || '0' <= r && r <= '9' || r == '-' || r == '.' || 0xe0 <= r && r <= 0xff
}

// TestNames: 5.2, each rune there is in an applet's name, and an import's.
func TestNames(t *testing.T) {
	for r := rune(0); r <= utf8.MaxRune; r++ {
		if r == ' ' || r == '\n' || r == '#' {
			continue
		}
		_, n, _ := text.Parse("applet a" + string(r) + "b\nwhat")
		_, m, _ := text.Parse("applet a\nimport " + string(r) + " 0 none\nwhat")
		if (n == 2) != mayStand(r) || (m == 3) != mayStand(r) || n == 0 || m == 0 {
			t.Errorf("5.2: a name with %q: lines %d, %d", r, n, m)
		}
	}
	for _, name := range []string{"a", "-", ".", "0", "applet", "none", "-0", "0123456789-.abcd", "\u00e0\u00e1\u00e2\u00e3\u00e4\u00e5\u00fe\u00ff"} {
		want := sample.Least()
		want.Name, want.Imports = name, []api.Import{{Name: name, Result: api.PubInt}}
		taken(t, "applet "+name+"\nimport "+name+" 0 pub\nmethod none\nret\n", want)
	}
	for _, name := range []string{"A", "\xe9", "a\xff", "\xc3", "\u00e9\xc3", "0123456789-.abcde", strings.Repeat("\u00e0", 9), "\u0100", "\u00df", "\ufffd", strings.Repeat("a", 1<<16)} {
		refused(t, "applet "+name+"\nmethod none\nret\n", 1)
		refused(t, "applet a\nimport "+name+" 0 none\nmethod none\nret\n", 2)
	}
}

// TestNumbers: 5.2, which words are numbers; those that are, but out of range,
// are told behind the last line.
func TestNumbers(t *testing.T) {
	for _, n := range []int{0, 1, -1, 9, -9, 10, -10, 99, 100, 255, 65536, 1000000000, 2147483647, -2147483648, -2147483647, 1234567890} {
		want := sample.Least()
		want.Methods[0].Code[0] = api.Instr{Op: code.Push, A: n}
		taken(t, "applet a\nmethod none\npush "+strconv.Itoa(n), want)
	}
	for _, word := range []string{"2147483648", "-2147483649", "4294967296", "9999999999", "-9999999999", "4294967295"} {
		refused(t, "applet a\nmethod none\npush "+word+"\nret\n", 5)
		refused(t, "applet a\nimport b "+word+" none\nmethod none\nret\n", 5)
		refused(t, "applet a\nmethod none\nret\nexport "+word+"\n", 5)
	}
	none := []string{
		"+1", "+0", "-0", "00", "01", "-01", "007", "-", "--1", "-+1", "1-", "1.0", "1e3", "0x1", "0b1", "0o7", "1_0", "1,0", "x", "1x", "x1",
		"10000000000", "-10000000000", "00000000001", "12345678901", "99999999999999999999", "18446744073709551617", "-18446744073709551616", strings.Repeat("1", 1<<16), strings.Repeat("0", 300),
		"\u0661", "\u0967", "\uff11", "1\u0661", "\u2212" + "1", "1\xff", "\xff", "\u00b2", "\u00bd", "/", ":", "1/", "1:",
	}
	for _, word := range none {
		refused(t, "applet a\nmethod none\npush "+word+"\nret\n", 3)
		refused(t, "applet a\nmethod none\nnew 3 "+word+"\nret\n", 3)
		refused(t, "applet a\nmethod none\nnew "+word+" 0\nret\n", 3)
		refused(t, "applet a\nimport b "+word+" none\nmethod none\nret\n", 2)
		refused(t, "applet a\nmethod none\nret\nexport "+word+"\n", 4)
	}
}

// TestNotRight: 5.2, lines that are all at their place, but an image that is not
// right: the line behind the last one.
func TestNotRight(t *testing.T) {
	const head, rest = "applet a\n", "method none\nret\n"
	cases := []string{
		head, head + "field pub\n", head + "import b 0 none\n", head + "method none\n", head + "method none\nlocals pub\n",
		head + "method none\nexport 0\n", head + rest + "method none\n", head + "method none\n" + rest,
		head + "method pub\nret\n", head + "method none pub\nret\n",
		head + strings.Repeat("field pub\n", 9) + rest, head + strings.Repeat("field pub\n", 100) + rest,
		head + strings.Repeat("import b 0 none\n", 5) + rest, head + strings.Repeat("import b 0 none\n", 100) + rest,
		head + "import b 4 none\n" + rest, head + "import b -1 none\n" + rest, head + "import b 256 none\n" + rest,
		head + "import b 0 none pub pub pub pub pub\n" + rest, head + "import b 0 none" + strings.Repeat(" seca", 100) + "\n" + rest,
		head + strings.Repeat(rest, 9), head + strings.Repeat(rest, 100),
		head + rest + "method none pub pub pub pub pub\nret\n", head + rest + "method none" + strings.Repeat(" sec", 100) + "\nret\n",
		head + "method none\nlocals pub pub pub pub pub pub pub pub pub pub pub\nret\n", head + "method none\nlocals" + strings.Repeat(" sec", 100) + "\nret\n",
		head + rest + "method none pub\nlocals pub pub pub pub pub pub pub pub pub pub\nret\n",
		head + "method none\n" + strings.Repeat("ret\n", 121), head + "method none\n" + strings.Repeat("pop\n", 1000),
		head + rest + strings.Repeat("export 0\n", 5), head + rest + strings.Repeat("export 0\n", 100),
		head + rest + "export 1\n", head + rest + "export -1\n", head + rest + "export 256\n", head + rest + "export 4294967296\n",
		head + "method none\nload 10\n", head + "method none\nload -1\n", head + "method none\njump 120\n", head + "method none\nnull 2\n", head + "method none\nnew 3 3\n",
		head + "method none\nnew 3 7\n", head + "method none\nnew 5 0\n", head + "method none\nnew 3 -1\n", head + "method none\nbuf 0\n", head + "method none\nsend 3\n", head + "method none\ncall 8\n", head + "method none\ncallx 4\n", head + "method none\ngetf 8\n",
	}
	for _, s := range cases {
		refused(t, s, strings.Count(s, "\n")+1)
		refused(t, strings.TrimSuffix(s, "\n"), strings.Count(s, "\n")+1)
		refused(t, s+"\n#\n", strings.Count(s, "\n")+3)
		refused(t, s+"what", strings.Count(s, "\n")+1)
		refused(t, s+"\n\nwhat\n", strings.Count(s, "\n")+3)
		refused(t, "what\n"+s, 1)
	}
}

// TestMost: 5.2, as much of each part as there may be is taken.
func TestMost(t *testing.T) {
	taken(t, mostText(), sample.Most())
	i := sample.Least()
	i.Methods = append(i.Methods, api.Method{Params: []int{1, 2, 3, 4}, Locals: slices.Repeat([]int{4}, 6), Code: slices.Repeat([]api.Instr{{Op: code.Pop}}, 120)})
	i.Exports = []int{1, 1, 1, 1}
	s := leastText + "method none pub sec puba seca\nlocals" + strings.Repeat(" seca", 6) + "\n" + strings.Repeat("pop\n", 120) + strings.Repeat("export 1\n", 4)
	taken(t, s, i)
}

// reader is another one that reads lines, by patterns: what Parse answers is held
// against it.
type reader struct {
	lines map[byte]*regexp.Regexp
	order *regexp.Regexp
}

// newReader makes one.
func newReader() *reader {
	const name, number, kind, result = `[a-z0-9.\-à-ÿ]+`, `(0|-?[1-9][0-9]{0,9})`, `(pub|sec|puba|seca)`, `(none|pub|sec|puba|seca)`
	return &reader{
		lines: map[byte]*regexp.Regexp{
			'A': regexp.MustCompile(`^applet ` + name + `$`),
			'F': regexp.MustCompile(`^field ` + kind + `$`),
			'I': regexp.MustCompile(`^import ` + name + ` ` + number + ` ` + result + `( ` + kind + `)*$`),
			'M': regexp.MustCompile(`^method ` + result + `( ` + kind + `)*$`),
			'L': regexp.MustCompile(`^locals( ` + kind + `)+$`),
			'C': regexp.MustCompile(`^((pop|dup|add|sub|mul|and|or|xor|shl|shr|sar|neg|not|div|rem|eq|lt|below|pick|isnull|len|get|put|copy|same|ret)|(push|load|store|jump|jumpif|null|getf|putf|buf|send|call|callx) ` + number + `|new ` + number + ` ` + number + `)$`),
			'E': regexp.MustCompile(`^export ` + number + `$`),
		},
		order: regexp.MustCompile(`^(A(F*I*(ML?C*)*|F*I*(ML?C*)+E*))?$`),
	}
}

// letter answers what kind of line it is; 0 of none.
func (r *reader) letter(line string) byte {
	words := strings.Split(line, " ")
	long := (words[0] == "applet" || words[0] == "import") && len(words) > 1 && len(words[1]) > api.MaxName
	for letter, pattern := range r.lines {
		if pattern.MatchString(line) && !long {
			return letter
		}
	}
	return 0
}

// read answers the lines of s as they are printed, how many s has, and the first
// one that is wrong; 0 of none.
func (r *reader) read(s string) (plain string, count, wrong int) {
	all := strings.Split(s, "\n")
	if all[len(all)-1] == "" {
		all = all[:len(all)-1]
	}
	letters := ""
	for n, line := range all {
		line, _, _ = strings.Cut(line, "#")
		words := slices.DeleteFunc(strings.Split(line, " "), func(word string) bool { return word == "" })
		if len(words) == 0 {
			continue
		}
		line = strings.Join(words, " ")
		letter := r.letter(line)
		letters += string(rune(letter))
		if !r.order.MatchString(letters) {
			return "", len(all), n + 1
		}
		if letter == 'C' {
			line = "  " + line
		}
		plain += line + "\n"
	}
	return plain, len(all), 0
}

// holds holds what Parse answers of s against the other reader, and 5.3; it
// tells whether s was taken.
func (r *reader) holds(t *testing.T, s string) bool {
	t.Helper()
	plain, count, wrong := r.read(s)
	i, n, e := text.Parse(s)
	if e != api.OK {
		if e != api.ErrForm || !isNone(i) || wrong > 0 && n != wrong || wrong == 0 && n != count+1 {
			t.Errorf("5.2: Parse(%q): %+v, line %d, %d; wrong: %d, lines: %d", s, i, n, e, wrong, count)
		}
		return false
	}
	again, e := text.Print(i)
	if e != api.OK || again != plain || wrong != 0 || n != 0 || !image.Right(i) {
		t.Errorf("5.3: Parse(%q), printed: %q, %d, not %q; line %d; wrong: %d", s, again, e, plain, n, wrong)
	}
	return true
}

// TestPieces: 5.2 and 5.3, texts with each byte left out, turned, or with
// another one ahead.
func TestPieces(t *testing.T) {
	r := newReader()
	for at := range len(someText) {
		r.holds(t, someText[:at])
		r.holds(t, someText[at:])
		r.holds(t, someText[:at]+someText[at+1:])
		for _, b := range []string{" ", "\n", "#", "0", "1", "-", "a", "A", "\t", "\x00", "\xc3", "\xff", "+", "."} {
			r.holds(t, someText[:at]+b+someText[at:])
			r.holds(t, someText[:at]+b+someText[at+1:])
		}
	}
}

// anyWord answers a word, at its place or not.
func anyWord(d *sample.Dice) string {
	return d.OneOf("applet", "field", "import", "method", "locals", "export", "push", "new", "ret", "pop", "none", "pub", "sec", "puba", "seca", "0", "1", "-1", "-0", "01", "3", "10", "a", "\u00e9", "A", "#", "\n", "\n", " ", "")
}

// turned answers s with some words turned, left out, laid twice, or with others
// between.
func turned(d *sample.Dice, s string) string {
	words := strings.SplitAfter(strings.ReplaceAll(s, "\n", " \n "), " ")
	for range 1 + d.UpTo(2) {
		at := d.UpTo(len(words) - 1)
		switch d.UpTo(4) {
		case 0:
			words[at] = anyWord(d) + " "
		case 1:
			words[at] = ""
		case 2:
			words[at] += words[at]
		case 3:
			words[at] += anyWord(d) + " "
		case 4:
			other := d.UpTo(len(words) - 1)
			words[at], words[other] = words[other], words[at]
		}
	}
	return strings.Join(words, "")
}

// TestTurned: 5.2 and 5.3, texts with words turned; some of them are taken.
func TestTurned(t *testing.T) {
	r, d, all := newReader(), sample.NewDice(5), 0
	for range 4000 {
		for _, s := range []string{leastText, someText} {
			if r.holds(t, turned(d, s)) {
				all++
			}
		}
	}
	if all < 400 {
		t.Errorf("5.2: %d texts are taken", all)
	}
}

// TestAnyWords: 5.2, texts of any words.
func TestAnyWords(t *testing.T) {
	r, d := newReader(), sample.NewDice(6)
	for range 20000 {
		s := d.OneOf("", "applet a\n", "applet a\nmethod none\n", leastText)
		for range d.UpTo(8) {
			s += anyWord(d) + " "
		}
		r.holds(t, s)
	}
}

// TestAnyImages: 5.3, images of all kinds are parsed to the same.
func TestAnyImages(t *testing.T) {
	r, d := newReader(), sample.NewDice(7)
	for range 100 {
		i := d.Image()
		s, e := text.Print(i)
		if e != api.OK || strings.Contains(s, "\n\n") || !strings.HasSuffix(s, "\n") {
			t.Errorf("5.1: %q, %d", s, e)
		}
		taken(t, s, i)
		r.holds(t, s)
	}
}

// TestAnswers: R2, no two lists of an answer share memory, nor do two answers.
func TestAnswers(t *testing.T) {
	other, _, _ := text.Parse(someText)
	turned, _, _ := text.Parse(someText)
	if !sample.Apart(turned) {
		t.Error("R2: two lists of an answer share memory")
	}
	sample.Spoil(turned)
	if !image.Same(other, sample.Some()) {
		t.Error("R2: two answers share memory")
	}
}

// TestNamesAreCopies: R2, a text that was handed in is not kept by its names.
func TestNamesAreCopies(t *testing.T) {
	s := strings.Clone(someText)
	i, _, _ := text.Parse(s)
	from := uintptr(unsafe.Pointer(unsafe.StringData(s)))
	for _, name := range []string{i.Name, i.Imports[0].Name, i.Imports[1].Name} {
		at := uintptr(unsafe.Pointer(unsafe.StringData(name)))
		if from <= at && at < from+uintptr(len(s)) {
			t.Errorf("R2: %q is a piece of the text", name)
		}
	}
}

// TestHandedIn: R2, what is printed is not changed, nor is its spare room looked
// at; nil and an empty list are the same.
func TestHandedIn(t *testing.T) {
	i, whole := sample.Roomy()
	if s, e := text.Print(i); e != api.OK || s != someText || !whole() {
		t.Errorf("R2: %q, %d", s, e)
	}
	if s, e := text.Print(sample.Empty()); e != api.OK || s != leastText {
		t.Errorf("R2: empty lists: %q, %d", s, e)
	}
}

// TestLongTexts: R1 and R6, long texts are gone through to their first wrong
// line, and of what is too many no list is made.
func TestLongTexts(t *testing.T) {
	const much = 1 << 18
	cases := []struct {
		s    string
		line int
	}{
		{"applet a\n" + strings.Repeat("field pub\n", much), much + 2},
		{"applet a\n" + strings.Repeat("import b 0 none\n", much) + "what\n", much + 2},
		{"applet a\n" + strings.Repeat("method none\n", much), much + 2},
		{"applet a\nmethod none\n" + strings.Repeat("ret\n", much) + "ret 1\n", much + 3},
		{leastText + strings.Repeat("export 0\n", much) + "x", much + 4},
		{leastText + strings.Repeat("\n", much) + "x", much + 4},
		{"applet a\nmethod none" + strings.Repeat(" pub", much) + "\nx", 3},
		{"applet a\nmethod none" + strings.Repeat(" pub", much) + " none\nx", 2},
		{"applet a\nimport b 0 none" + strings.Repeat(" pub", much) + "\nx", 3},
		{"applet a\nmethod none\nlocals" + strings.Repeat(" pub", much) + "\nret\nx", 5},
		{strings.Repeat(" ", much) + "x" + strings.Repeat(" ", much) + "#" + strings.Repeat("#", much), 1},
		{strings.Repeat("a", much) + "\napplet a\n", 1},
		{"applet " + strings.Repeat("a", much), 1},
	}
	for n, c := range cases {
		before, after := runtime.MemStats{}, runtime.MemStats{}
		runtime.ReadMemStats(&before)
		i, line, e := text.Parse(c.s)
		runtime.ReadMemStats(&after)
		if e != api.ErrForm || line != c.line || !isNone(i) {
			t.Errorf("R6: case %d: line %d, not %d; %d", n, line, c.line, e)
		}
		if asked := after.TotalAlloc - before.TotalAlloc; asked > 4*much {
			t.Errorf("R6: case %d asked for %d bytes", n, asked)
		}
	}
}

// TestRunes: the chapter's Ways, lines, words, names rune by rune: those who part
// a text range over it, with a value, and nothing of the library parts it.
func TestRunes(t *testing.T) {
	file, err := parser.ParseFile(token.NewFileSet(), "text.go", nil, 0)
	if err != nil {
		t.Fatal(err)
	}
	parters := []string{"Split", "SplitSeq", "Fields", "FieldsSeq", "Lines", "Index", "IndexByte", "Cut", "TrimSpace"}
	found := map[string]bool{}
	for _, d := range file.Decls {
		f, isFunc := d.(*ast.FuncDecl)
		if !isFunc {
			continue
		}
		ast.Inspect(f, func(node ast.Node) bool {
			switch n := node.(type) {
			case *ast.RangeStmt:
				found[f.Name.Name] = found[f.Name.Name] || n.Value != nil
			case *ast.SelectorExpr:
				of, isName := n.X.(*ast.Ident)
				if isName && of.Name == "strings" && slices.Contains(parters, n.Sel.Name) {
					t.Errorf("Ways: %s parts by strings.%s", f.Name.Name, n.Sel.Name)
				}
			}
			return true
		})
	}
	for _, name := range []string{"lines", "plain", "next", "number"} {
		if !found[name] {
			t.Errorf("Ways: %s has no range with a value", name)
		}
	}
}
