package fault_test

import (
	"errors"
	"math"
	"slices"
	"strings"
	"testing"

	"veneer/api"
	"veneer/fault"
)

const mostNested = 1 << 16 // the document's bound of parts within one another

// asFault: the Fault that an error is itself.
func asFault(t *testing.T, err error) *fault.Fault {
	t.Helper()
	f, ok := err.(*fault.Fault)
	if !ok || f == nil {
		t.Fatalf("%#v is no Fault", err)
	}
	return f
}

// asList: the List that an error is itself.
func asList(t *testing.T, err error) *fault.List {
	t.Helper()
	l, ok := err.(*fault.List)
	if !ok || l == nil {
		t.Fatalf("%#v is no List", err)
	}
	return l
}

// numbers: all errors' numbers that api names, and some that it doesn't.
func numbers() []api.Errno {
	return []api.Errno{
		api.ErrArg, api.ErrLong, api.ErrFull, api.ErrNone, api.ErrThere, api.ErrState, api.ErrNil, api.ErrMany,
		api.ErrShort, api.ErrForm, api.ErrSum, api.ErrPath, api.ErrName, api.ErrDeep, api.ErrLack, api.ErrBroken,
		api.ErrNotDir, api.ErrIsDir, api.ErrForeign, api.ErrKind, api.ErrNotEmpty, api.ErrWithin, api.ErrRoot,
		api.ErrRange, api.ErrBig, api.ErrForgot, api.ErrDown, api.ErrRecord, api.ErrLine, api.ErrWord,
		-1, 9, 1000, math.MaxInt, math.MinInt,
	}
}

// words: texts that an operation or a path may be given as, none of which means anything here.
func words() []string {
	return []string{"", "x", "write", "/a", "/a/b c", ": ", "; ", " ", "\x00\xff", "é\n", strings.Repeat("long", 500)}
}

func TestNew(t *testing.T) { // P3.1
	for _, op := range words() {
		for _, path := range words() {
			if err := fault.New(op, path, api.OK); err != nil {
				t.Errorf("New(%q, %q, OK): %q, want nil", op, path, err)
			}
			for _, e := range numbers() {
				f := asFault(t, fault.New(op, path, e))
				if f.Op != op || f.Path != path || f.Err != e {
					t.Errorf("New(%q, %q, %d): %q, %q, %v", op, path, e, f.Op, f.Path, f.Err)
				}
			}
		}
	}
	if fault.New("x", "", api.ErrNone) == fault.New("x", "", api.ErrNone) {
		t.Error("two calls of New answer one Fault")
	}
}

func TestWrap(t *testing.T) { // P3.1
	one := fault.New("write", "/a", api.ErrBig)
	for _, op := range words() {
		if err := fault.Wrap(op, nil); err != nil {
			t.Errorf("Wrap(%q, nil): %#v, want nil", op, err)
		}
		for _, in := range []error{api.ErrNone, api.OK, one, fault.Wrap("do", one), fault.All(one, api.ErrFull)} {
			f := asFault(t, fault.Wrap(op, in))
			if f.Op != op || f.Path != "" || f.Err != in {
				t.Errorf("Wrap(%q, %v): %q, %q, %v", op, in, f.Op, f.Path, f.Err)
			}
		}
	}
}

func TestAllOfNoneOrOne(t *testing.T) { // P3.1
	for _, errs := range [][]error{nil, {}, {nil}, {nil, nil}, make([]error, 1000)} {
		if err := fault.All(errs...); err != nil {
			t.Errorf("All of %d nils: %v, want nil", len(errs), err)
		}
	}
	if err := fault.All(); err != nil {
		t.Errorf("All(): %v, want nil", err)
	}
	one := fault.New("x", "/p", api.ErrNone)
	for _, in := range []error{api.ErrFull, one, fault.Wrap("y", one), fault.All(one, one)} {
		for _, errs := range [][]error{{in}, {nil, in}, {in, nil}, {nil, nil, in, nil}} {
			if err := fault.All(errs...); err != in {
				t.Errorf("All of %v: %v, want the one itself", errs, err)
			}
		}
	}
}

func TestAllOfSeveral(t *testing.T) { // P3.1, P3.2
	a, b, l := fault.New("a", "/a", api.ErrNone), fault.Wrap("b", api.ErrBig), fault.All(api.ErrArg, api.ErrLong)
	for _, r := range []struct{ errs, want []error }{
		{[]error{a, b}, []error{a, b}},
		{[]error{b, a}, []error{b, a}},
		{[]error{nil, a, nil, nil, b, nil}, []error{a, b}},
		{[]error{a, a}, []error{a, a}},
		{[]error{api.ErrFull, api.ErrFull, a}, []error{api.ErrFull, api.ErrFull, a}},
		{[]error{l, b, nil, l}, []error{l, b, l}}, // a List in a List stays one error
		{[]error{api.OK, api.ErrFull}, []error{api.OK, api.ErrFull}},
	} {
		if got := asList(t, fault.All(r.errs...)).Unwrap(); !slices.Equal(got, r.want) {
			t.Errorf("All of %v has %v, want %v", r.errs, got, r.want)
		}
	}
	many := make([]error, 5000)
	for i := range many {
		many[i] = api.Errno(i + 1)
	}
	if got := asList(t, fault.All(many...)).Unwrap(); !slices.Equal(got, many) {
		t.Errorf("All of %d errors has %d, or another order", len(many), len(got))
	}
}

func TestAllKeepsNothing(t *testing.T) { // rules 2 and 3
	room := []error{nil, api.ErrNone, nil, api.ErrFull, api.ErrBig, api.ErrArg}
	before := slices.Clone(room)
	err := fault.All(room[:4]...)
	if !slices.Equal(room, before) {
		t.Errorf("All changed what it was handed: %v", room)
	}
	clear(room)
	if got := asList(t, err).Unwrap(); !slices.Equal(got, []error{api.ErrNone, api.ErrFull}) {
		t.Errorf("All kept what it was handed: %v", got)
	}
	full := []error{api.ErrNone, api.ErrFull} // without nils nothing need be moved, so it could be kept as it is
	err = fault.All(full...)
	full[0], full[1] = api.ErrBig, nil
	if fault.Text(err) != "veneer: error 4; veneer: error 3" || fault.Code(err) != api.ErrNone || !fault.Is(err, api.ErrFull) || fault.Is(err, api.ErrBig) {
		t.Errorf("All kept what it was handed: %v", err)
	}
}

func TestTexts(t *testing.T) { // P3.2
	write := fault.New("write", "/a", api.ErrBig)
	none := fault.New("x", "", api.ErrNone)
	list := fault.All(nil, none, api.ErrFull)
	for _, r := range []struct {
		err  error
		want string
	}{
		{nil, ""},
		{api.ErrBig, "veneer: error 134"},
		{api.OK, "veneer: error 0"},
		{api.Errno(-7), "veneer: error -7"},
		{write, "write /a: veneer: error 134"},
		{none, "x: veneer: error 4"},
		{fault.New("", "", api.ErrNone), ": veneer: error 4"},
		{fault.New("", "/p", api.ErrNone), " /p: veneer: error 4"},
		{fault.New("a b", " ", api.ErrNone), "a b  : veneer: error 4"},
		{fault.New("\xff", "\x00", api.ErrNone), "\xff \x00: veneer: error 4"},
		{fault.Wrap("do", write), "do: write /a: veneer: error 134"},
		{fault.Wrap("do", api.OK), "do: veneer: error 0"},
		{fault.Wrap("", fault.Wrap("", none)), ": : x: veneer: error 4"},
		{list, "x: veneer: error 4; veneer: error 3"},
		{fault.All(api.ErrFull, none), "veneer: error 3; x: veneer: error 4"},
		{fault.All(write, write, write), "write /a: veneer: error 134; write /a: veneer: error 134; write /a: veneer: error 134"},
		{fault.Wrap("do", list), "do: x: veneer: error 4; veneer: error 3"},
		{fault.All(list, fault.Wrap("y", list)), "x: veneer: error 4; veneer: error 3; y: x: veneer: error 4; veneer: error 3"},
		{fault.Wrap("z", fault.All(fault.Wrap("y", list), write)), "z: y: x: veneer: error 4; veneer: error 3; write /a: veneer: error 134"},
	} {
		if got := fault.Text(r.err); got != r.want {
			t.Errorf("Text: %q, want %q", got, r.want)
		}
		if r.err != nil && r.err.Error() != r.want {
			t.Errorf("Error: %q, want %q", r.err.Error(), r.want)
		}
	}
}

func TestUnwrap(t *testing.T) { // P3.2
	one := fault.New("write", "/a", api.ErrBig)
	list := fault.All(one, api.ErrFull)
	if got := asFault(t, one).Unwrap(); got != api.ErrBig {
		t.Errorf("Unwrap of a Fault of a number: %v", got)
	}
	for _, in := range []error{one, list, api.OK} {
		if got := asFault(t, fault.Wrap("do", in)).Unwrap(); got != in {
			t.Errorf("Unwrap of a Fault: %v, want %v", got, in)
		}
	}
	l := asList(t, list)
	first, second := l.Unwrap(), l.Unwrap()
	clear(first)
	if !slices.Equal(second, []error{one, api.ErrFull}) {
		t.Errorf("what Unwrap answers shares memory with what it answered: %v", second)
	}
	_ = append(second[:0], nil, nil, nil)
	if got := l.Unwrap(); !slices.Equal(got, []error{one, api.ErrFull}) {
		t.Errorf("what Unwrap answers is no new memory: %v", got)
	}
	if fault.Text(list) != "write /a: veneer: error 134; veneer: error 3" || fault.Code(list) != api.ErrBig || fault.Path(list) != "/a" || !fault.Is(list, api.ErrFull) {
		t.Errorf("the List isn't what it was: %v", list)
	}
}

func TestTheWay(t *testing.T) { // P3.3
	write := fault.New("write", "/a", api.ErrBig)
	none := fault.New("x", "", api.ErrNone)
	outer := &fault.Fault{Op: "outer", Path: "/o", Err: write}
	above := &fault.Fault{Op: "above", Path: "/o", Err: fault.Wrap("mid", none)}
	list := fault.All(none, write)
	for _, r := range []struct {
		what  string
		err   error
		code  api.Errno
		path  string
		trace []string
	}{
		{"nil", nil, api.OK, "", nil},
		{"a number", api.ErrSum, api.ErrSum, "", nil},
		{"the number OK", api.OK, api.OK, "", nil},
		{"a Fault", write, api.ErrBig, "/a", []string{"write"}},
		{"a Fault without a path", none, api.ErrNone, "", []string{"x"}},
		{"a Fault of OK", fault.Wrap("do", api.OK), api.OK, "", []string{"do"}},
		{"a path further in", fault.Wrap("do", fault.Wrap("on", write)), api.ErrBig, "/a", []string{"do", "on", "write"}},
		{"no path at all", fault.Wrap("do", none), api.ErrNone, "", []string{"do", "x"}},
		{"several paths", fault.Wrap("do", outer), api.ErrBig, "/a", []string{"do", "outer", "write"}},
		{"a path further out", above, api.ErrNone, "/o", []string{"above", "mid", "x"}},
		{"one operation thrice", fault.Wrap("x", fault.Wrap("x", none)), api.ErrNone, "", []string{"x", "x", "x"}},
		{"empty operations", fault.Wrap("", fault.New("", "/e", api.ErrArg)), api.ErrArg, "/e", []string{"", ""}},
		{"a List", list, api.ErrNone, "", []string{"x"}},
		{"a List, the other way round", fault.All(write, none), api.ErrBig, "/a", []string{"write"}},
		{"a List with a number first", fault.All(api.ErrFull, write), api.ErrFull, "", nil},
		{"a List with OK first", fault.All(api.OK, write), api.OK, "", nil},
		{"a List behind nils", fault.All(nil, write, nil, none), api.ErrBig, "/a", []string{"write"}},
		{"a List in a Fault", fault.Wrap("do", list), api.ErrNone, "", []string{"do", "x"}},
		{"a List in a Fault with a path", &fault.Fault{Op: "do", Path: "/d", Err: list}, api.ErrNone, "/d", []string{"do", "x"}},
		{"a List in a List", fault.All(fault.All(api.ErrFull, write), none), api.ErrFull, "", nil},
		{"Lists within Faults within Lists", fault.All(fault.Wrap("a", fault.All(fault.Wrap("b", fault.All(outer, none)), write)), none), api.ErrBig, "/a", []string{"a", "b", "outer", "write"}},
		{"the same, a number first", fault.All(fault.Wrap("a", fault.All(fault.Wrap("b", fault.All(api.ErrSum, outer)), write)), write), api.ErrSum, "", []string{"a", "b"}},
	} {
		if got := fault.Code(r.err); got != r.code {
			t.Errorf("Code of %s: %d, want %d", r.what, got, r.code)
		}
		if got := fault.Path(r.err); got != r.path {
			t.Errorf("Path of %s: %q, want %q", r.what, got, r.path)
		}
		if got := fault.Trace(r.err); !slices.Equal(got, r.trace) {
			t.Errorf("Trace of %s: %q, want %q", r.what, got, r.trace)
		}
	}
}

func TestCodeOfEachNumber(t *testing.T) { // P3.3, P3.4
	for _, e := range numbers() {
		for _, err := range []error{e, fault.New("x", "/p", e), fault.Wrap("do", e), fault.All(e, api.ErrSum, api.ErrArg)} {
			if fault.Code(err) != e || !fault.Is(err, e) || fault.Is(err, api.OK) {
				t.Errorf("%v: Code %d, want %d; Is %v", err, fault.Code(err), e, fault.Is(err, e))
			}
		}
	}
}

func TestTraceIsNewMemory(t *testing.T) { // rule 3
	err := fault.Wrap("do", fault.New("write", "/a", api.ErrBig))
	first := fault.Trace(err)
	clear(first)
	if got := fault.Trace(err); !slices.Equal(got, []string{"do", "write"}) || fault.Text(err) != "do: write /a: veneer: error 134" {
		t.Errorf("what Trace answered was written over, and now it is %q", got)
	}
}

func TestIs(t *testing.T) { // P3.4
	deep := fault.All(fault.New("a", "", api.ErrArg), fault.Wrap("b", fault.All(api.ErrLong, fault.Wrap("c", fault.All(api.ErrSum, fault.New("d", "/d", api.ErrDeep))))), api.ErrFull)
	for _, r := range []struct {
		what string
		err  error
		has  []api.Errno
	}{
		{"nil", nil, nil},
		{"a number", api.ErrNone, []api.Errno{api.ErrNone}},
		{"the number OK", api.OK, nil},
		{"a Fault", fault.New("x", "/p", api.ErrNone), []api.Errno{api.ErrNone}},
		{"a Fault of OK", fault.Wrap("x", api.OK), nil},
		{"Faults", fault.Wrap("z", fault.Wrap("y", fault.New("x", "/p", api.ErrNone))), []api.Errno{api.ErrNone}},
		{"a List", fault.All(fault.New("x", "", api.ErrNone), api.ErrFull), []api.Errno{api.ErrNone, api.ErrFull}},
		{"a List of one number", fault.All(api.ErrBig, api.ErrBig), []api.Errno{api.ErrBig}},
		{"a List with OK", fault.All(api.OK, api.ErrBig), []api.Errno{api.ErrBig}},
		{"Lists within Faults within Lists", deep, []api.Errno{api.ErrArg, api.ErrLong, api.ErrSum, api.ErrDeep, api.ErrFull}},
		{"all that in Faults", fault.Wrap("o", fault.Wrap("p", deep)), []api.Errno{api.ErrArg, api.ErrLong, api.ErrSum, api.ErrDeep, api.ErrFull}},
	} {
		for _, e := range numbers() {
			want := slices.Contains(r.has, e)
			if got := fault.Is(r.err, e); got != want {
				t.Errorf("Is of %s, %d: %v, want %v", r.what, e, got, want)
			}
			if got := errors.Is(r.err, e); got != want {
				t.Errorf("errors.Is of %s, %d: %v, want %v", r.what, e, got, want)
			}
		}
		if got := fault.Is(r.err, api.OK); got != (r.err == nil) {
			t.Errorf("Is of %s, OK: %v", r.what, got)
		}
	}
}

func TestTheLibraryFindsThem(t *testing.T) { // P3.2, P3.4
	one := fault.New("write", "/a", api.ErrBig)
	list := fault.All(api.ErrFull, one)
	err := fault.Wrap("do", list)
	var e api.Errno
	var l *fault.List
	if !errors.As(err, &e) || e != api.ErrFull || !errors.As(err, &l) || error(l) != list || !errors.Is(err, one) {
		t.Errorf("errors.As, errors.Is of %v: %v, %v", err, e, l)
	}
}

func TestAnswersHangOnArgumentsAlone(t *testing.T) { // rule 5
	build := func() error {
		return fault.All(fault.Wrap("do", fault.All(fault.New("x", "/p", api.ErrNone), api.ErrFull)), fault.New("y", "/q", api.ErrBig))
	}
	for range 20 {
		err := build()
		for range 3 {
			if fault.Text(err) != "do: x /p: veneer: error 4; veneer: error 3; y /q: veneer: error 134" || fault.Code(err) != api.ErrNone || fault.Path(err) != "/p" || !slices.Equal(fault.Trace(err), []string{"do", "x"}) || !fault.Is(err, api.ErrBig) || fault.Is(err, api.ErrArg) {
				t.Fatalf("asked again, %v is another one", err)
			}
		}
	}
}

func TestDeepFaults(t *testing.T) { // P1, rule 6
	err := fault.New("w", "/deep", api.ErrBig)
	for range mostNested {
		err = fault.Wrap(strings.Repeat("o", 100), err)
	}
	want := strings.Repeat(strings.Repeat("o", 100)+": ", mostNested) + "w /deep: veneer: error 134"
	if fault.Text(err) != want {
		t.Error("the text of many Faults within one another is another one")
	}
	if fault.Code(err) != api.ErrBig || fault.Path(err) != "/deep" || len(fault.Trace(err)) != mostNested+1 || !fault.Is(err, api.ErrBig) || fault.Is(err, api.ErrArg) {
		t.Error("many Faults within one another aren't gone through")
	}
}

func TestDeepLists(t *testing.T) { // P1, rule 6
	first, last := fault.New("w", "/deep", api.ErrBig), fault.New("w", "/deep", api.ErrBig)
	for range mostNested {
		first, last = fault.All(first, api.ErrFull), fault.All(api.ErrFull, last)
	}
	if fault.Text(first) != "w /deep: veneer: error 134"+strings.Repeat("; veneer: error 3", mostNested) {
		t.Error("the text of Lists that are the first of one another")
	}
	if fault.Text(last) != strings.Repeat("veneer: error 3; ", mostNested)+"w /deep: veneer: error 134" {
		t.Error("the text of Lists that are the last of one another")
	}
	if fault.Code(first) != api.ErrBig || fault.Path(first) != "/deep" || !slices.Equal(fault.Trace(first), []string{"w"}) || fault.Code(last) != api.ErrFull || fault.Path(last) != "" || len(fault.Trace(last)) != 0 {
		t.Error("the way through many Lists")
	}
	if !fault.Is(first, api.ErrBig) || !fault.Is(last, api.ErrBig) || fault.Is(first, api.ErrArg) || fault.Is(last, api.ErrArg) {
		t.Error("Is of many Lists")
	}
}

func TestPartsThatStandAtManyPlaces(t *testing.T) { // P1, P3.4, rule 6
	err := fault.New("w", "/p", api.ErrBig)
	for range 100 { // 2^100 places, but two hundred parts
		err = fault.Wrap("o", fault.All(err, err))
	}
	if fault.Is(err, api.ErrArg) || !fault.Is(err, api.ErrBig) || !fault.Is(fault.All(err, api.ErrArg), api.ErrArg) || fault.Is(err, api.OK) {
		t.Error("Is of parts at many places")
	}
	if fault.Code(err) != api.ErrBig || fault.Path(err) != "/p" || len(fault.Trace(err)) != 101 {
		t.Error("the way through parts at many places")
	}
}

func TestNoObject(t *testing.T) { // rule 6: chapter 3 gives a nil Fault or List no meaning, but nothing panics
	var f *fault.Fault
	var l *fault.List
	if f.Error() != "" || f.Unwrap() != nil || l.Error() != "" || len(l.Unwrap()) != 0 {
		t.Errorf("nil objects: %q, %v, %q, %v", f.Error(), f.Unwrap(), l.Error(), l.Unwrap())
	}
	for _, err := range []error{f, l, &fault.Fault{}, &fault.List{}} {
		for _, at := range []error{err, fault.Wrap("do", err), fault.All(err, err)} {
			if fault.Code(at) != api.OK || fault.Path(at) != "" || fault.Is(at, api.ErrArg) || fault.Is(at, api.OK) {
				t.Errorf("%#v: %d, %q", at, fault.Code(at), fault.Path(at))
			}
			_, _ = fault.Text(at), fault.Trace(at)
		}
	}
}
