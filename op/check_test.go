package op_test

import (
	"fmt"
	"math"
	"math/rand"
	"strings"
	"testing"

	"veneer/api"
	"veneer/op"
	"veneer/vpath"
)

// P10.1: the chapter's examples.
func TestCheckExamples(t *testing.T) {
	checks(t, "example", api.Op{Kind: api.OpMkdir, Path: "/a"}, api.OK)
	checks(t, "example", api.Op{Kind: api.OpMkdir, Path: "/a", Size: 1}, api.ErrArg)
	checks(t, "example", api.Op{Kind: api.OpWrite, Path: "a", Data: text(1025)}, api.ErrBig)
	checks(t, "example", api.Op{Kind: 12}, api.ErrKind)
}

// P10.1: every kind of the table, with all fields that it names, and with no more than it must have.
func TestCheckKinds(t *testing.T) {
	for _, r := range table() {
		checks(t, r.word, r.right(), api.OK)
		o := r.right()
		o.Data, o.Size = "", 0
		if r.kind != 11 {
			o.At = 0
		}
		checks(t, r.word+" of zeros", o, api.OK)
	}
}

// P10.1: kinds that aren't there: ErrKind, ahead of all else that is wrong.
func TestCheckNoKinds(t *testing.T) {
	for _, kind := range noKinds() {
		for _, o := range []api.Op{
			{}, {Path: "/a"}, {Path: "a"}, {Path: "/a", To: "/b"}, {Path: "/a", At: 1}, {At: 1}, {At: -1}, {Size: -1},
			{At: 1025}, {Size: 1025}, {Data: text(1025)}, {Path: "/a", To: "b", Data: text(1025), At: -1, Size: 1025}, {Path: text(257)},
		} {
			o.Kind = kind
			checks(t, "no kind", o, api.ErrKind)
		}
	}
}

// P10.1: each kind with each field that the table doesn't name for it.
func TestCheckFieldsBesideTheTable(t *testing.T) {
	for _, r := range table() {
		for _, f := range []struct {
			what  string
			named bool
			set   func(o *api.Op)
		}{
			{"Path", r.path, func(o *api.Op) { o.Path = "/" }},
			{"Path of a space", r.path, func(o *api.Op) { o.Path = " " }},
			{"To", r.to, func(o *api.Op) { o.To = "/b" }},
			{"To of a zero byte", r.to, func(o *api.Op) { o.To = "\x00" }},
			{"long To", r.to, func(o *api.Op) { o.To = text(1025) }},
			{"Data", r.data, func(o *api.Op) { o.Data = "d" }},
			{"long Data", r.data, func(o *api.Op) { o.Data = text(1025) }},
			{"At", r.at, func(o *api.Op) { o.At = 1 }},
			{"great At", r.at, func(o *api.Op) { o.At = 1025 }},
			{"At below 0", r.at, func(o *api.Op) { o.At = -1 }},
			{"Size", r.size, func(o *api.Op) { o.Size = 1 }},
			{"great Size", r.size, func(o *api.Op) { o.Size = math.MaxInt }},
			{"Size below 0", r.size, func(o *api.Op) { o.Size = math.MinInt }},
		} {
			if f.named {
				continue
			}
			what := r.word + " with " + f.what
			o := r.right()
			f.set(&o)
			checks(t, what, o, api.ErrArg)
			if r.path {
				o.Path = "no path"
				checks(t, what+", no path", o, api.ErrArg)
			}
			if r.data {
				o.Data = text(1025)
				checks(t, what+", great Data", o, api.ErrArg)
			}
			if r.at {
				o.At = 1025
				checks(t, what+", great At", o, api.ErrArg)
			}
		}
	}
}

// P10.1: At and Size, where they are named, are 0 to MaxFile.
func TestCheckNumbers(t *testing.T) {
	for _, r := range table() {
		if r.kind == 11 {
			continue
		}
		for n, want := range map[int]api.Errno{
			math.MinInt: api.ErrArg, -1 << 32: api.ErrArg, -1024: api.ErrArg, -1: api.ErrArg, 0: api.OK, 1: api.OK, 9: api.OK, 1023: api.OK, 1024: api.OK,
			1025: api.ErrBig, 1100: api.ErrBig, 1 << 32: api.ErrBig, math.MaxInt: api.ErrBig,
		} {
			if r.at {
				o := r.right()
				o.At = n
				checks(t, r.word+": At", o, want)
			}
			if r.size {
				o := r.right()
				o.Size = n
				checks(t, r.word+": Size", o, want)
			}
		}
	}
	for _, o := range []api.Op{{At: -1, Size: 1025}, {At: 1025, Size: -1}} {
		o.Kind, o.Path = api.OpRead, "/a"
		checks(t, "below 0 and above", o, api.ErrArg)
	}
	checks(t, "both at the limit", api.Op{Kind: api.OpRead, Path: "/a", At: 1024, Size: 1024}, api.OK)
	checks(t, "both at the limit", api.Op{Kind: api.OpWrite, Path: "/a", At: 1024, Data: text(1024)}, api.OK)
}

// P10.1: the client that is to be forgotten is 1 to 8: never ErrBig.
func TestCheckForget(t *testing.T) {
	for n := 1; n <= 8; n++ {
		checks(t, "forget", api.Op{Kind: api.OpForget, At: n}, api.OK)
	}
	for _, n := range []int{0, 9, 10, -1, -8, 1024, 1025, 1<<32 + 1, math.MinInt, math.MaxInt} {
		checks(t, "forget", api.Op{Kind: api.OpForget, At: n}, api.ErrArg)
	}
}

// P10.1: Data has at most MaxFile bytes, of any kind.
func TestCheckData(t *testing.T) {
	for count, want := range map[int]api.Errno{0: api.OK, 1: api.OK, 1023: api.OK, 1024: api.OK, 1025: api.ErrBig, 1100: api.ErrBig, 1101: api.ErrBig, 1 << 20: api.ErrBig} {
		checks(t, "Data", api.Op{Kind: api.OpWrite, Path: "/a", Data: text(count)}, want)
	}
	checks(t, "Data of odd bytes", api.Op{Kind: api.OpWrite, Path: "/a", Data: "\x00\xff/\n"}, api.OK)
	checks(t, "Data of two-byte letters", api.Op{Kind: api.OpWrite, Path: "/a", Data: strings.Repeat("ä", 512)}, api.OK)
	checks(t, "Data of two-byte letters", api.Op{Kind: api.OpWrite, Path: "/a", Data: strings.Repeat("ä", 513)}, api.ErrBig)
}

// paths: texts of paths, with Parse's errors.
func paths() map[string]api.Errno {
	return map[string]api.Errno{
		"/": api.OK, "/a": api.OK, "/..": api.OK, "//a/./b/": api.OK, "/a/b/c/d/e/f/g/h": api.OK, "/a/b/c/d/e/f/g/h/i/..": api.OK,
		"/abcdefghijklmnop": api.OK, "/" + strings.Repeat("./", 127) + "/": api.OK,
		"": api.ErrPath, "a": api.ErrPath, " ": api.ErrPath, "/a b": api.ErrPath, "/\x00": api.ErrPath, "/ä": api.ErrPath,
		"/abcdefghijklmnopq": api.ErrName, "/a/b/c/d/e/f/g/h/i": api.ErrDeep,
		"/" + strings.Repeat("a/", 128): api.ErrLong, text(257): api.ErrLong, text(2000): api.ErrLong,
	}
}

// P10.1: Parse's error of Path, of every kind that names it; behind all other errors.
func TestCheckPaths(t *testing.T) {
	for s, want := range paths() {
		if _, e := vpath.Parse(s); e != want {
			t.Fatalf("Parse(%.40q): %d, want %d", s, e, want)
		}
		for _, r := range table() {
			if !r.path {
				continue
			}
			o := r.right()
			o.Path = s
			checks(t, r.word+": Path", o, want)
			if r.at {
				o.At = 1025
				checks(t, r.word+": Path, great At", o, api.ErrBig)
				o.At = -1
				checks(t, r.word+": Path, At below 0", o, api.ErrArg)
			}
			if r.size {
				o.At, o.Size = 0, 1025
				checks(t, r.word+": Path, great Size", o, api.ErrBig)
				o.Size = -1
				checks(t, r.word+": Path, Size below 0", o, api.ErrArg)
			}
			if r.data {
				o.At, o.Data = 0, text(1025)
				checks(t, r.word+": Path, great Data", o, api.ErrBig)
			}
		}
	}
}

// P10.1: of a rename Parse's error of Path, then that of To.
func TestCheckTo(t *testing.T) {
	for from, first := range paths() {
		for to, second := range paths() {
			want := first
			if first == api.OK {
				want = second
			}
			checks(t, "rename", api.Op{Kind: api.OpRename, Path: from, To: to}, want)
			checks(t, "rename with Size", api.Op{Kind: api.OpRename, Path: from, To: to, Size: 1}, api.ErrArg)
			checks(t, "rename with Data", api.Op{Kind: api.OpRename, Path: from, To: to, Data: text(1025)}, api.ErrArg)
		}
	}
	checks(t, "to itself", api.Op{Kind: api.OpRename, Path: "/a", To: "/a"}, api.OK)
	checks(t, "to below itself", api.Op{Kind: api.OpRename, Path: "/a", To: "/a/b"}, api.OK)
}

// said: what P10.1 says of an operation, said once more, field by field.
func said(o api.Op) api.Errno {
	var r row
	for _, x := range table() {
		if x.kind == o.Kind {
			r = x
		}
	}
	if r.kind == 0 {
		return api.ErrKind
	}
	if !r.path && o.Path != "" || !r.to && o.To != "" || !r.data && o.Data != "" || !r.at && o.At != 0 || !r.size && o.Size != 0 {
		return api.ErrArg
	}
	if o.At < 0 || o.Size < 0 || o.Kind == 11 && (o.At < 1 || o.At > 8) {
		return api.ErrArg
	}
	if len(o.Data) > 1024 || o.At > 1024 || o.Size > 1024 {
		return api.ErrBig
	}
	if _, e := vpath.Parse(o.Path); r.path && e != api.OK {
		return e
	}
	if _, e := vpath.Parse(o.To); r.to && e != api.OK {
		return e
	}
	return api.OK
}

// P10.1: operations of chance, held against its words.
func TestCheckModel(t *testing.T) {
	r := rand.New(rand.NewSource(10))
	count := map[string]int{}
	var texts []string
	for s := range paths() {
		texts = append(texts, s)
	}
	for range 60000 {
		o := api.Op{Kind: r.Intn(13)}
		if o.Kind < 1 || o.Kind > 11 {
			o.Kind = pick(r, noKinds()...)
		} else {
			o = table()[o.Kind-1].right()
		}
		for range r.Intn(3) {
			switch r.Intn(5) {
			case 0:
				o.Path = pick(r, texts...)
			case 1:
				o.To = pick(r, texts...)
			case 2:
				o.Data = text(pick(r, 0, 1, 1024, 1025))
			case 3:
				o.At = pick(r, -1, 0, 1, 8, 9, 1024, 1025, number(r))
			case 4:
				o.Size = pick(r, -1, 0, 1, 1024, 1025, number(r))
			}
		}
		e := said(o)
		checks(t, "model", o, e)
		count[fmt.Sprint(op.Word(o.Kind), " ", int(e))]++
	}
	for _, x := range table() {
		wanted := []api.Errno{api.OK, api.ErrArg}
		if x.path {
			wanted = append(wanted, api.ErrLong, api.ErrPath, api.ErrName, api.ErrDeep)
		}
		if x.path && (x.at || x.size || x.data) {
			wanted = append(wanted, api.ErrBig)
		}
		for _, e := range wanted {
			if key := fmt.Sprint(x.word, " ", int(e)); count[key] < 10 {
				t.Errorf("only %d operations of %s", count[key], key)
			}
		}
	}
	if count[" 100"] < 1000 {
		t.Errorf("only %d operations of no kind", count[" 100"])
	}
}

// P10.2: words, kinds, and which kinds read.
func TestWords(t *testing.T) {
	for _, r := range table() {
		if got := op.Word(r.kind); got != r.word {
			t.Errorf("P10.2: Word(%d): %q, want %q", r.kind, got, r.word)
		}
		if got := op.Kind(r.word); got != r.kind {
			t.Errorf("P10.2: Kind(%q): %d, want %d", r.word, got, r.kind)
		}
		if got, want := op.Reads(r.kind), r.kind >= 8 && r.kind <= 10; got != want {
			t.Errorf("P10.2: Reads(%d): %t, want %t", r.kind, got, want)
		}
		for _, s := range []string{
			strings.ToUpper(r.word), strings.ToUpper(r.word[:1]) + r.word[1:], " " + r.word, r.word + " ", r.word + "\n", r.word + "\x00",
			r.word[1:], r.word[:len(r.word)-1], r.word + r.word, r.word + "s", "Op" + r.word, fmt.Sprint(r.kind),
		} {
			if got := op.Kind(s); got != 0 {
				t.Errorf("P10.2: Kind(%q): %d, want 0", s, got)
			}
		}
	}
	for _, kind := range noKinds() {
		if op.Word(kind) != "" || op.Reads(kind) {
			t.Errorf("P10.2: of no kind, %d: Word %q, Reads %t", kind, op.Word(kind), op.Reads(kind))
		}
	}
	for _, s := range []string{"", " ", "\t", "\x00", "mkdir create", "mkdir,create", "no", "none", "delete", "open", "0", "12", "-1", text(1 << 20)} {
		if got := op.Kind(s); got != 0 {
			t.Errorf("P10.2: Kind(%.40q): %d, want 0", s, got)
		}
	}
}
