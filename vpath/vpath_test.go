package vpath_test

import (
	"math/rand"
	"slices"
	"strings"
	"testing"

	"veneer/api"
	"veneer/vpath"
)

const nameBytes = "abcdefghijklmnopqrstuvwxyzABCDEFGHIJKLMNOPQRSTUVWXYZ0123456789._-"

// list: the names of a text with a blank between each two.
func list(s string) []string { return strings.Fields(s) }

// deep: n names.
func deep(n int) []string { return slices.Repeat([]string{"n"}, n) }

// taken: Parse must answer these names.
func taken(t *testing.T, s string, want []string) {
	t.Helper()
	if got, e := vpath.Parse(s); e != api.OK || !slices.Equal(got, want) {
		t.Errorf("Parse(%q): %q, %d; want %q", s, got, e, want)
	}
	if got, e := vpath.Clean(s); e != api.OK || got != "/"+strings.Join(want, "/") {
		t.Errorf("Clean(%q): %q, %d; want the text of %q", s, got, e, want)
	}
}

// refused: Parse, and Clean, must answer this error and nothing beside it.
func refused(t *testing.T, s string, want api.Errno) {
	t.Helper()
	if got, e := vpath.Parse(s); e != want || len(got) != 0 {
		t.Errorf("Parse(%q): %q, %d; want the error %d alone", s, got, e, want)
	}
	if got, e := vpath.Clean(s); e != want || got != "" {
		t.Errorf("Clean(%q): %q, %d; want the error %d alone", s, got, e, want)
	}
}

func TestParseOfExamples(t *testing.T) { // P4.1, P4.2: the chapter's
	taken(t, "/a/./b//c/../d/", list("a b d"))
	taken(t, "/..", nil)
	taken(t, "//a/", list("a"))
	refused(t, "", api.ErrPath)
	refused(t, "a", api.ErrPath)
	refused(t, "/a b", api.ErrPath)
	refused(t, "/abcdefghijklmnopq", api.ErrName)
	refused(t, "/a/b/c/d/e/f/g/h/i", api.ErrDeep)
	taken(t, "/a/b/c/d/e/f/g/h/i/..", list("a b c d e f g h"))
}

func TestParseOfPieces(t *testing.T) { // P4.1
	for s, want := range map[string]string{
		"/":                  "",
		"//":                 "",
		"///////":            "",
		"/.":                 "",
		"/./":                "",
		"/././.":             "",
		"/../":               "",
		"/../..":             "",
		"/.././..//":         "",
		"/a":                 "a",
		"/a/":                "a",
		"/a//":               "a",
		"/a/.":               "a",
		"/./a":               "a",
		"/a/b":               "a b",
		"/a///b":             "a b",
		"/a/././b":           "a b",
		"/b/a":               "b a",
		"/a/a/a":             "a a a",
		"/a/..":              "",
		"/a/../":             "",
		"/a/../..":           "",
		"/a/../../b":         "b",
		"/../a":              "a",
		"/../../a/b":         "a b",
		"/a/../b":            "b",
		"/a/b/..":            "a",
		"/a/b/../..":         "",
		"/a/b/../../..":      "",
		"/a/b/../../../c":    "c",
		"/a/b/../c/../d":     "a d",
		"/a/./..":            "",
		"/a//..":             "",
		"/a/.//./../b":       "b",
		"/...":               "...",
		"/..../a":            ".... a",
		"/a/...":             "a ...",
		"/.../..":            "",
		"/.a":                ".a",
		"/a.":                "a.",
		"/..a":               "..a",
		"/a..":               "a..",
		"/.a./b":             ".a. b",
		"/..a/..":            "",
		"/-":                 "-",
		"/_":                 "_",
		"/.-":                ".-",
		"/._/--/-.":          "._ -- -.",
		"/................":  "................",
		"/................/": "................",
	} {
		taken(t, s, list(want))
	}
}

func TestParseOfEachByte(t *testing.T) { // P4.1
	for i := range 256 {
		c := string([]byte{byte(i)})
		switch {
		case c == "/":
			taken(t, "/"+c, nil)
			taken(t, "/a"+c+"b", list("a b"))
			continue
		case strings.Contains(nameBytes, c):
			taken(t, "/a"+c, []string{"a" + c})
			taken(t, "/"+c+"b", []string{c + "b"})
			taken(t, "/x/a"+c+"b/y", []string{"x", "a" + c + "b", "y"})
		default:
			for _, s := range []string{"/" + c, "/a" + c, "/" + c + "a", "/a/b/" + c + "/../..", c + "/", "//" + c, "/.." + c} {
				refused(t, s, api.ErrPath)
			}
		}
		refused(t, c, api.ErrPath) // none but the stroke may be first
		refused(t, c+"/a", api.ErrPath)
	}
	for _, s := range []string{"/é", "/a/日本", "/a\x00", "/a\xff/b", "/a\n", "\\a", "/a\\b", "/a:b", "/~", "/a*", " /a", "./a", "../a", "a/b", "", "/ "} {
		refused(t, s, api.ErrPath)
	}
	for from := 0; from < len(nameBytes); from += api.MaxName {
		name := nameBytes[from:min(from+api.MaxName, len(nameBytes))]
		taken(t, "/"+name, []string{name})
	}
}

func TestParseOfLongTexts(t *testing.T) { // P4.1
	taken(t, strings.Repeat("/", api.MaxText), nil)
	refused(t, strings.Repeat("/", api.MaxText+1), api.ErrLong)
	taken(t, strings.Repeat("/.", api.MaxText/2), nil)
	refused(t, strings.Repeat("/.", api.MaxText/2)+"/", api.ErrLong)
	taken(t, strings.Repeat("/", api.MaxText-1)+"a", list("a"))
	refused(t, strings.Repeat("/", api.MaxText)+"a", api.ErrLong)
	taken(t, "/a"+strings.Repeat("/", api.MaxText-4)+"/b", list("a b"))
	refused(t, "/"+strings.Repeat("a/", 1<<20), api.ErrLong)
}

func TestParseOfLongPieces(t *testing.T) { // P4.1
	most := strings.Repeat("a", api.MaxName)
	taken(t, "/"+most, list(most))
	refused(t, "/"+most+"a", api.ErrName)
	taken(t, "/"+most+"/"+most+"/", list(most+" "+most))
	refused(t, "/b/"+most+"a/c", api.ErrName)
	refused(t, "/"+most+"/"+most+"a", api.ErrName)
	refused(t, "/"+most+"a/..", api.ErrName) // though it is taken away again
	refused(t, "/b/"+most+"a/../..", api.ErrName)
	refused(t, "/"+strings.Repeat(".", api.MaxName+1), api.ErrName)
	refused(t, "/"+strings.Repeat("a", api.MaxText-1), api.ErrName)
}

func TestParseOfDeepPaths(t *testing.T) { // P4.1
	for n := range api.MaxDepth + 1 {
		taken(t, "/"+strings.Repeat("n/", n), deep(n))
		taken(t, strings.Repeat("/n", n)+"/", deep(n))
	}
	for n := api.MaxDepth + 1; n < 100; n++ {
		refused(t, strings.Repeat("/n", n), api.ErrDeep)
	}
	most := strings.Repeat("/n", api.MaxDepth)
	taken(t, most+"/././/", deep(api.MaxDepth))
	refused(t, most+"/./n", api.ErrDeep)
	taken(t, most+"/n/..", deep(api.MaxDepth))
	taken(t, most+"/n/../o/../p/..", deep(api.MaxDepth))
	taken(t, most+"/../o", append(deep(api.MaxDepth-1), "o"))
	refused(t, most+"/n/../n", api.ErrDeep)
	refused(t, most+"/n/n/..", api.ErrDeep)
	taken(t, most+"/n/n/../..", deep(api.MaxDepth))
	taken(t, strings.Repeat("/n", 50)+strings.Repeat("/..", 50), nil)
	taken(t, strings.Repeat("/n", 50)+strings.Repeat("/..", 51)+"/x", list("x"))
	refused(t, strings.Repeat("/..", 20)+strings.Repeat("/n", 9), api.ErrDeep)
}

func TestOrderOfParseErrors(t *testing.T) { // P4.1, rule 1
	long, name, nine := strings.Repeat("/", api.MaxText+1), "/"+strings.Repeat("a", api.MaxName+1), strings.Repeat("/n", api.MaxDepth+1)
	for _, s := range []string{
		long + " ", long + name, long + nine, long + nine + name + " ", // beside each of the others, and all of them
		strings.Repeat("a", api.MaxText+1), strings.Repeat("\xff", api.MaxText+1), strings.Repeat("/a", api.MaxText),
	} {
		refused(t, s, api.ErrLong)
	}
	for _, s := range []string{
		name + " ", name + "/ ", " " + name, name[1:], "/ " + name, // a piece that is too long, ahead or behind
		nine + " ", nine + "/ ", nine[1:], nine + name + "/\x00", name + nine + "\x80",
		strings.Repeat(" ", api.MaxText), strings.Repeat("a", api.MaxText),
	} {
		refused(t, s, api.ErrPath)
	}
	for _, s := range []string{nine + name, name + nine, nine + name + "/../..", "/n" + name + nine} {
		refused(t, s, api.ErrName)
	}
}

// model: the names of a text of strokes, points and letters, worked out by rewriting the text.
func model(s string) string {
	s += "/"
	for strings.Contains(s, "//") || strings.Contains(s, "/./") {
		s = strings.ReplaceAll(strings.ReplaceAll(s, "/./", "/"), "//", "/")
	}
	for strings.Contains(s, "/../") {
		at := strings.Index(s, "/../")
		s = s[:max(strings.LastIndex(s[:at], "/"), 0)] + s[at+3:]
	}
	return "/" + strings.Trim(s, "/")
}

func TestEachShortText(t *testing.T) { // P4.1, P4.2, P4.5
	const bytes = "/.a"
	texts := []string{""}
	for range 9 {
		var longer []string
		for _, s := range texts {
			for i := range len(bytes) {
				longer = append(longer, s+bytes[i:i+1])
			}
		}
		for _, s := range longer {
			want := model(s)
			if s[0] != '/' {
				refused(t, s, api.ErrPath)
			} else if got, e := vpath.Clean(s); e != api.OK || got != want {
				t.Fatalf("Clean(%q): %q, %d; want %q", s, got, e, want)
			} else if again, e := vpath.Clean(got); e != api.OK || again != got {
				t.Fatalf("Clean(%q): %q, %d; want the text itself", got, again, e)
			}
		}
		texts = longer
	}
}

func TestShow(t *testing.T) { // P4.2
	for _, r := range []struct {
		names []string
		want  string
	}{
		{nil, "/"},
		{[]string{}, "/"},
		{list("a"), "/a"},
		{list("a b"), "/a/b"},
		{list("b a b"), "/b/a/b"},
		{list("a b c d e f g h"), "/a/b/c/d/e/f/g/h"},
		{[]string{""}, "/"},
		{[]string{"", ""}, "//"},
		{[]string{"a", ""}, "/a/"},
		{[]string{"", "a"}, "//a"},
		{[]string{".", ".."}, "/./.."},
		{[]string{"a/b", "/"}, "/a/b//"},
		{[]string{"a b", "é", "\x00\xff"}, "/a b/é/\x00\xff"},
		{[]string{strings.Repeat("x", 500)}, "/" + strings.Repeat("x", 500)},
		{deep(2000), strings.Repeat("/n", 2000)},
	} {
		if got := vpath.Show(r.names); got != r.want {
			t.Errorf("Show(%q): %q, want %q", r.names, got, r.want)
		}
	}
}

// noNames: texts that are no names.
func noNames() []string {
	texts := []string{"", ".", "..", strings.Repeat("a", api.MaxName+1), strings.Repeat(".", api.MaxName+1), strings.Repeat("a", 5000), "/", "a/b", "/a", "a/", "é", "a\x00"}
	for i := range 256 {
		if c := string([]byte{byte(i)}); !strings.Contains(nameBytes, c) {
			texts = append(texts, c, "a"+c, c+"a", "a"+c+"b", strings.Repeat("a", api.MaxName-1)+c)
		}
	}
	return texts
}

func TestCheckOfOneName(t *testing.T) { // P4.2
	names := []string{"...", "....", ".a", "a.", "..a", "a..", "-", "_", "-.", strings.Repeat("a", api.MaxName), strings.Repeat(".", api.MaxName)}
	for i := range len(nameBytes) {
		c := nameBytes[i : i+1]
		names = append(names, "a"+c, c+"a")
		if c != "." {
			names = append(names, c)
		}
	}
	for _, name := range names {
		if e := vpath.Check([]string{name}); e != api.OK {
			t.Errorf("Check(%q): %d, want OK", name, e)
		}
	}
	for _, bad := range noNames() {
		for _, names := range [][]string{{bad}, {bad, "a"}, {"a", bad}, {"a", bad, "b"}, append(deep(7), bad), append(deep(8), bad), append([]string{bad}, deep(20)...)} {
			if e := vpath.Check(names); e != api.ErrName {
				t.Errorf("Check(%q): %d, want ErrName", names, e)
			}
		}
	}
}

func TestCheckOfManyNames(t *testing.T) { // P4.2
	for n := range 50 {
		want := api.OK
		if n > api.MaxDepth {
			want = api.ErrDeep
		}
		if e := vpath.Check(deep(n)); e != want {
			t.Errorf("Check of %d names: %d, want %d", n, e, want)
		}
	}
	if e := vpath.Check(make([]string, 9)); e != api.ErrName {
		t.Errorf("Check of nine empty texts: %d, want ErrName", e)
	}
	if e := vpath.Check(append(deep(100000), "..")); e != api.ErrName {
		t.Errorf("Check of many names and one that is none: %d, want ErrName", e)
	}
	if e := vpath.Check(nil); e != api.OK {
		t.Errorf("Check of the root: %d, want OK", e)
	}
}

func TestSplit(t *testing.T) { // P4.3
	for _, r := range []struct {
		names, dir []string
		last       string
	}{
		{list("a"), nil, "a"},
		{list("..."), nil, "..."},
		{list("a b"), list("a"), "b"},
		{list("b a"), list("b"), "a"},
		{list("a a a"), list("a a"), "a"},
		{list("a b c d e f g h"), list("a b c d e f g"), "h"},
	} {
		if dir, last, e := vpath.Split(r.names); e != api.OK || !slices.Equal(dir, r.dir) || last != r.last {
			t.Errorf("Split(%q): %q, %q, %d; want %q, %q", r.names, dir, last, e, r.dir, r.last)
		}
	}
}

func TestSplitRefuses(t *testing.T) { // P4.3, rule 2
	refuses := func(names []string, want api.Errno) {
		t.Helper()
		if dir, last, e := vpath.Split(names); e != want || len(dir) != 0 || last != "" {
			t.Errorf("Split(%q): %q, %q, %d; want the error %d alone", names, dir, last, e, want)
		}
	}
	refuses(nil, api.ErrRoot)
	refuses([]string{}, api.ErrRoot)
	refuses(deep(9), api.ErrDeep)
	refuses(deep(1000), api.ErrDeep)
	refuses(append(deep(9), "."), api.ErrName)
	for _, bad := range noNames() {
		refuses([]string{bad}, api.ErrName)
		refuses([]string{"a", bad}, api.ErrName)
		refuses([]string{bad, "a"}, api.ErrName)
	}
}

func TestWithin(t *testing.T) { // P4.4
	for _, r := range []struct {
		path, of []string
		want     bool
	}{
		{nil, nil, true},
		{[]string{}, nil, true},
		{list("a"), nil, true},
		{nil, list("a"), false},
		{list("a"), list("a"), true},
		{list("a b"), list("a"), true},
		{list("a b"), list("a b"), true},
		{list("a"), list("a b"), false},
		{list("a b"), list("b"), false},
		{list("a b"), list("a c"), false},
		{list("a b c"), list("a b"), true},
		{list("a b c"), list("a c"), false},
		{list("a b c"), list("b c"), false},
		{list("a b c"), list("x b"), false},
		{list("ab"), list("a"), false},
		{list("a"), list("ab"), false},
		{list("ab c"), list("a b"), false},
		{list("A"), list("a"), false},
		{[]string{""}, nil, true},
		{nil, []string{""}, false},
		{[]string{"", ""}, []string{""}, true},
		{[]string{"a", ""}, list("a"), true},
		{list("a"), []string{"a", ""}, false},
		{[]string{"a/b"}, list("a"), false},
		{[]string{"a/b"}, list("a b"), false},
		{list("a b"), []string{"a/b"}, false},
		{[]string{"\xff", "é", ".."}, []string{"\xff", "é"}, true},
		{[]string{"\xff"}, []string{"\xfe"}, false},
		{list("a .."), list("a"), true},
		{deep(1000), deep(999), true},
		{deep(999), deep(1000), false},
	} {
		if got := vpath.Within(r.path, r.of); got != r.want {
			t.Errorf("Within(%q, %q): %v, want %v", r.path, r.of, got, r.want)
		}
	}
}

// ascending: lists of texts in their order, each ahead of those behind it.
func ascending() [][]string {
	return [][]string{
		nil,
		{""},
		{"", ""},
		{"", "z"},
		{"\x00"},
		{" "},
		{"-"},
		{"-", "z"},
		{"."},
		{"/"},
		{"0"},
		{"10"},
		{"2"},
		{"A"},
		{"Z", "z"},
		{"_"},
		{"a"},
		{"a", ""},
		{"a", "B"},
		{"a", "b"},
		{"a", "b", "a"},
		{"a", "bb"},
		{"a", "c"},
		{"a", "c", "a"},
		{"a", "d"},
		{"a-b"}, // ahead of "a/c" as one text, for '-' is less than the stroke
		{"a-b", "a"},
		{"a.b"},
		{"a/b"},
		{"aa"},
		{"ab"},
		{"b"},
		{"b", "a"},
		{"é"},
		{"\xff"},
		{"\xff", "\xff"},
		{"\xff\xff"},
	}
}

func TestCompare(t *testing.T) { // P4.4
	lists := ascending()
	for i, a := range lists {
		for j, b := range lists {
			want := 0
			if i < j {
				want = -1
			} else if i > j {
				want = 1
			}
			if got := vpath.Compare(slices.Clone(a), slices.Clone(b)); got != want {
				t.Errorf("Compare(%q, %q): %d, want %d", a, b, got, want)
			}
		}
	}
	for _, r := range []struct {
		a, b []string
		want int
	}{
		{list("a"), list("a b"), -1},
		{list("a b"), list("a"), 1},
		{list("a-b"), list("a c"), 1},
		{list("a c"), list("a-b"), -1},
		{nil, []string{}, 0},
		{[]string{}, nil, 0},
		{deep(1000), deep(1001), -1},
		{deep(1001), deep(1001), 0},
		{append(deep(1000), "a"), append(deep(999), "o"), -1},
	} {
		if got := vpath.Compare(r.a, r.b); got != r.want {
			t.Errorf("Compare(%q, %q): %d, want %d", r.a, r.b, got, r.want)
		}
	}
}

// drawn: a path of names that a seeded source draws.
func drawn(r *rand.Rand) []string {
	var path []string
	for range r.Intn(api.MaxDepth + 1) {
		name := make([]byte, 1+r.Intn(api.MaxName))
		for i := range name {
			name[i] = nameBytes[r.Intn(len(nameBytes))]
		}
		if s := string(name); s != "." && s != ".." {
			path = append(path, s)
		}
	}
	return path
}

func TestThereAndBack(t *testing.T) { // P4.5
	paths := [][]string{nil, list("a"), list("..."), list(".a a. -"), deep(api.MaxDepth), slices.Repeat([]string{strings.Repeat("x", api.MaxName)}, api.MaxDepth)}
	r := rand.New(rand.NewSource(4))
	for range 2000 {
		paths = append(paths, drawn(r))
	}
	for _, path := range paths {
		text := vpath.Show(path)
		if e := vpath.Check(path); e != api.OK {
			t.Fatalf("Check(%q): %d, want OK", path, e)
		}
		taken(t, text, path) // Clean of it is the text itself
	}
	for _, s := range []string{"/a/./b//c/../d/", "//a/", "/..", "/.../..a/", "/a/b/c/d/e/f/g/h/i/.."} {
		clean, _ := vpath.Clean(s)
		if again, e := vpath.Clean(clean); again != clean || e != api.OK {
			t.Errorf("Clean(%q): %q, %d; want the text itself", clean, again, e)
		}
	}
}

func TestArgumentsStay(t *testing.T) { // rule 3
	room := list("a b c d e f g h i j")
	before := slices.Clone(room)
	names, other := room[:3], room[3:5]
	dir, _, _ := vpath.Split(names)
	_ = append(dir, "over", "over", "over", "over", "over")
	vpath.Show(names)
	vpath.Check(names)
	vpath.Within(names, room[:2])
	vpath.Compare(names, other)
	vpath.Split(room)
	if !slices.Equal(room, before) {
		t.Errorf("what was handed in was changed: %q", room)
	}
}

func TestAnswersAreNewMemory(t *testing.T) { // rule 3
	names := list("a b c")
	dir, last, _ := vpath.Split(names)
	again, _, _ := vpath.Split(names)
	clear(names)
	if !slices.Equal(dir, list("a b")) || last != "c" {
		t.Errorf("Split kept what it was handed: %q, %q", dir, last)
	}
	clear(dir)
	if !slices.Equal(again, list("a b")) {
		t.Errorf("two answers of Split share memory: %q", again)
	}
	names = list("a b c")
	dir, _, _ = vpath.Split(names)
	clear(dir)
	if !slices.Equal(names, list("a b c")) {
		t.Errorf("Split's answer shares memory with what was handed in: %q", names)
	}
	first, _ := vpath.Parse("/a/b/x/..")
	second, _ := vpath.Parse("/a/b/x/..")
	clear(first)
	_ = append(first, "over")
	if third, _ := vpath.Parse("/a/b/x/.."); !slices.Equal(second, list("a b")) || !slices.Equal(third, second) {
		t.Errorf("answers of Parse share memory: %q, %q", second, third)
	}
}
