package plain_test

import (
	"fmt"
	"math/rand"
	"slices"
	"strings"
	"testing"

	"veneer/api"
	"veneer/blob"
	"veneer/plain"
	"veneer/tree"
	"veneer/vpath"
)

// noFS: New must answer this error, and nil.
func noFS(t *testing.T, what string, want api.Errno, files ...api.File) {
	t.Helper()
	if f, e := plain.New(files); e != want || f != nil {
		t.Errorf("P11.1: %s: New of %s: %v, %d; want nil, %d", what, show(files), f != nil, e, want)
	}
}

// P11.1: no list is a file system that has nothing below the root.
func TestNewOfNone(t *testing.T) {
	for _, none := range [][]api.File{nil, {}, make([]api.File, 0, 4)} {
		f := made(t, none...)
		has(t, "P11.1", f)
		answers(t, f, stat("/"), api.Result{Dir: true})
		answers(t, f, list("/"), named())
	}
}

// P11.1: paths in any order, and in any form, are the same file system.
func TestNewInAnyOrder(t *testing.T) {
	r := rand.New(rand.NewSource(111))
	want := several()
	has(t, "P11.1", made(t, want...), want...)
	backwards := slices.Clone(want)
	slices.Reverse(backwards)
	has(t, "P11.1: backwards", made(t, backwards...), want...)
	for range 100 {
		files := shuffled(r, want)
		for i := range files {
			files[i].Path = pick(r, files[i].Path, "/"+files[i].Path, files[i].Path+"/", "/./x/.."+files[i].Path+"/.")
		}
		has(t, "P11.1: in any order", made(t, files...), want...)
	}
}

// P11.1: how many names a directory has isn't asked, nor how many paths there are.
func TestNewOfMany(t *testing.T) {
	for _, count := range []int{64, 65, 200, 1000} {
		for _, at := range []string{"", "/a", "/a/b"} {
			var files []api.File
			if at != "" {
				files = append(files, dir("/a"))
			}
			if at == "/a/b" {
				files = append(files, dir("/a/b"))
			}
			for i := range count {
				files = append(files, file(fmt.Sprintf("%s/n%04d", at, i), "x"))
			}
			f := made(t, files...)
			has(t, "P11.1", f, files...)
			answers(t, f, stat("/"+at), api.Result{Dir: true, Size: count})
		}
	}
}

// P11.1: files up to the most bytes.
func TestNewOfSizes(t *testing.T) {
	for _, size := range []int{0, 1, 64, 1023, 1024} {
		has(t, "P11.1", made(t, file("/f", text(size))), file("/f", text(size)))
	}
	for _, size := range []int{1025, 2048, 1 << 20} {
		noFS(t, "too many bytes", api.ErrBig, file("/f", text(size)))
	}
}

// wrong: a list with each of the errors of tree.Build, in their order.
func wrong() []struct {
	e     api.Errno
	files []api.File
} {
	return []struct {
		e     api.Errno
		files []api.File
	}{
		{api.ErrPath, []api.File{file("p", "")}},
		{api.ErrArg, []api.File{{Path: "/arg", Dir: true, Data: "x"}}},
		{api.ErrBig, []api.File{file("/big", text(1025))}},
		{api.ErrThere, []api.File{file("/twice", ""), file("/twice", "")}},
		{api.ErrNone, []api.File{file("/none/x", "")}},
		{api.ErrNotDir, []api.File{file("/file", ""), file("/file/x", "")}},
	}
}

// P11.1: each error, and of two errors the one that is named first, wherever they stand.
func TestNewErrors(t *testing.T) {
	for i, first := range wrong() {
		noFS(t, "alone", first.e, first.files...)
		noFS(t, "behind others", first.e, append(several(), first.files...)...)
		noFS(t, "ahead of others", first.e, append(first.files, several()...)...)
		for _, next := range wrong()[i+1:] {
			noFS(t, "ahead of another", first.e, slices.Concat(first.files, next.files)...)
			noFS(t, "behind another", first.e, slices.Concat(next.files, first.files)...)
		}
	}
}

// P11.1: the path's errors: that of the first path that has one.
func TestNewPaths(t *testing.T) {
	paths := map[string]api.Errno{
		"": api.ErrPath, "a": api.ErrPath, "/a b": api.ErrPath, "/a\x00": api.ErrPath, "/" + text(17): api.ErrName,
		"/" + text(256): api.ErrLong, strings.Repeat("/", 257): api.ErrLong, strings.Repeat("/a", 9): api.ErrDeep,
	}
	for path, e := range paths {
		noFS(t, "a path", e, file(path, ""))
		noFS(t, "a directory's path", e, dir(path))
		noFS(t, "a path behind a right one", e, file("/a", ""), file(path, ""))
		for other := range paths {
			noFS(t, "two paths", e, file(path, ""), file(other, ""))
		}
		noFS(t, "with all else wrong", e, api.File{Path: path, Dir: true, Data: text(1025)}, file("/", ""))
	}
}

// P11.1: directories with data, however much.
func TestNewArg(t *testing.T) {
	for _, data := range []string{"x", "\x00", text(1025)} {
		noFS(t, "data", api.ErrArg, api.File{Path: "/a", Dir: true, Data: data})
		noFS(t, "the root with data", api.ErrArg, api.File{Path: "/", Dir: true, Data: data})
		noFS(t, "data where nothing is", api.ErrArg, api.File{Path: "/a/b", Dir: true, Data: data})
	}
	noFS(t, "a great file ahead", api.ErrArg, file("/f", text(1025)), api.File{Path: "/a", Dir: true, Data: "x"})
}

// P11.1: the root, and two that mean the same path.
func TestNewThere(t *testing.T) {
	for _, path := range []string{"/", "//", "/.", "/..", "/a/.."} {
		noFS(t, "the root", api.ErrThere, dir(path))
		noFS(t, "the root as a file", api.ErrThere, file(path, ""))
	}
	for _, path := range []string{"/a", "//a", "/a/", "/./a", "/b/../a"} {
		noFS(t, "two files", api.ErrThere, file("/a", "x"), file(path, "x"))
		noFS(t, "two directories", api.ErrThere, dir(path), dir("/a"))
		noFS(t, "a file and a directory", api.ErrThere, file(path, ""), dir("/a"))
		noFS(t, "a directory and a file", api.ErrThere, dir(path), file("/a", ""))
	}
}

// P11.1: directories that aren't told, or are files.
func TestNewDirectories(t *testing.T) {
	noFS(t, "one is missing", api.ErrNone, dir("/a"), file("/a/b/c", ""))
	noFS(t, "the first is missing", api.ErrNone, dir("/a/b"), file("/a/b/c", ""))
	noFS(t, "missing below a file", api.ErrNone, file("/a", ""), file("/a/b/c", ""))
	noFS(t, "missing behind one below a file", api.ErrNone, file("/a", ""), file("/a/b", ""), file("/c/d", ""))
	noFS(t, "a directory below a file", api.ErrNotDir, dir("/a/b"), file("/a", ""), file("/a/b/c", ""))
	noFS(t, "names that begin alike", api.ErrNone, dir("/a"), file("/aa/b", ""))
	has(t, "P11.1", made(t, file("/a/b", ""), dir("/a")), dir("/a"), file("/a/b", ""))
}

// drawnList: paths of which some are wrong.
func drawnList(r *rand.Rand) []api.File {
	var files []api.File
	names := []string{"a", "b", "c"}
	for range r.Intn(10) {
		var path string
		for range 1 + r.Intn(3) {
			path += "/" + pick(r, names...)
		}
		f := api.File{Path: path, Dir: r.Intn(3) > 0}
		if !f.Dir {
			f.Data = text(r.Intn(5))
		}
		switch r.Intn(200) {
		case 0:
			f.Path = pick(r, "x", "/", "/"+text(17), "/"+text(260), strings.Repeat("/a", 9))
		case 1:
			f.Data = pick(r, "x", text(1024), text(1025))
		}
		files = append(files, f)
	}
	return files
}

// P11.1: of drawn lists New answers what tree.Build does, and has what the tree has.
func TestNewAsBuild(t *testing.T) {
	r := rand.New(rand.NewSource(112))
	met := map[api.Errno]int{}
	for range 40000 {
		files := drawnList(r)
		s := blob.New(1 << 20)
		root, e := tree.Build(s, files)
		met[e]++
		if e != api.OK {
			noFS(t, "drawn", e, files...)
			continue
		}
		want, _ := tree.Walk(s, root)
		has(t, "P11.1: drawn", made(t, files...), want...)
	}
	for _, e := range []api.Errno{api.OK, api.ErrLong, api.ErrPath, api.ErrName, api.ErrDeep, api.ErrArg, api.ErrBig, api.ErrThere, api.ErrNone, api.ErrNotDir} {
		if met[e] < 10 {
			t.Errorf("P11.1: only %d drawn lists have the error %d", met[e], e)
		}
	}
}

// P11.3: List is in the order of layer 4, which isn't that of the texts.
func TestListInOrder(t *testing.T) {
	got := made(t, several()...).List()
	names := make([][]string, len(got))
	for i, at := range got {
		path, e := vpath.Parse(at.Path)
		if e != api.OK || vpath.Show(path) != at.Path {
			t.Errorf("P11.3: %q isn't clean", at.Path)
		}
		names[i] = path
	}
	if !slices.IsSortedFunc(names, vpath.Compare) {
		t.Errorf("P11.3: not in order: %s", show(got))
	}
	f := made(t)
	for _, o := range []api.Op{mkdir("//b/"), create("/b/../a-b"), mkdir("/./a"), create("/a//x"), mkdir("/a.b/.")} {
		answers(t, f, o, api.Result{})
	}
	answers(t, f, rename("/./b/", "//a/x/../b"), api.Result{})
	has(t, "P11.3", f, dir("/a"), dir("/a/b"), file("/a/x", ""), file("/a-b", ""), dir("/a.b"))
}

// allKinds: an operation of each kind that changes something, and of those that don't.
func allKinds() []api.Op {
	return []api.Op{
		mkdir("/n"), create("/a/n"), write("/f", 0, "HELLO, more"), truncate("/z", 3), unlink("/a/b"), rmdir("/e"),
		rename("/a", "/k"), rename("/f", "/a-b"), rename("/d", "/e"), read("/f", 0, 9), list("/"), stat("/a"), forget(1),
	}
}

// P11.3: a clone goes on apart, either way.
func TestClone(t *testing.T) {
	for _, o := range allKinds() {
		f := made(t, several()...)
		c := f.Clone()
		has(t, "P11.3: a clone", c, several()...)
		want := f.Do(o)
		if want.Code != api.OK {
			t.Fatalf("P11.3: %s is refused: %d", show(o), want.Code)
		}
		has(t, "P11.3: a clone of what went on", c, several()...)
		answers(t, c, o, want)
		has(t, "P11.3: a clone that did the same", c, f.List()...)
		f = made(t, several()...)
		f.Clone().Do(o)
		has(t, "P11.3: what was cloned", f, several()...)
	}
	f := made(t)
	c := f.Clone()
	answers(t, f.Clone().Clone(), stat("/"), api.Result{Dir: true})
	answers(t, c, mkdir("/a"), api.Result{})
	has(t, "P11.3: an empty one that was cloned", f)
	has(t, "P11.3: a clone's clone", c.Clone(), dir("/a"))
}

// P11.3: of a nil FS.
func TestNil(t *testing.T) {
	var f *plain.FS
	for _, o := range append(allKinds(), api.Op{}, api.Op{Kind: 12}, mkdir("x"), mkdir("/"), write("/f", -1, ""), forget(0)) {
		if got := f.Do(o); !same(got, api.Result{Code: api.ErrNil}) {
			t.Errorf("P11.3: of nil, %s: %s; want ErrNil alone", show(o), show(got))
		}
	}
	if got := f.List(); len(got) != 0 {
		t.Errorf("P11.3: of nil, List: %s", show(got))
	}
	if f.Clone() != nil {
		t.Errorf("P11.3: of nil, Clone isn't nil")
	}
}

// Rule 3: what New is handed isn't changed, its spare room neither, and may be written over behind the call.
func TestListHandedIn(t *testing.T) {
	whole := append(several(), file("no path", "behind"), dir("/"))
	before := slices.Clone(whole)
	f := made(t, whole[:len(several())]...)
	noFS(t, "with the rest", api.ErrPath, whole...)
	if !slices.Equal(whole, before) {
		t.Errorf("rule 3: the list was changed: %s", show(whole))
	}
	clear(whole)
	has(t, "rule 3: written over", f, several()...)
}

// Rule 3: what is answered is new memory.
func TestAnswersAreNew(t *testing.T) {
	f := made(t, several()...)
	a, b := f.List(), f.List()
	clear(a)
	_ = append(a, dir("/more"))
	if !slices.Equal(b, several()) {
		t.Errorf("rule 3: two answers of List share memory")
	}
	has(t, "rule 3", f, several()...)
	want := []string{"a/", "b", "c/"}
	x, y := f.Do(list("/a")), f.Do(list("/a"))
	_ = append(x.Names, "more")
	clear(x.Names)
	if !slices.Equal(y.Names, want) {
		t.Errorf("rule 3: two answers of list share memory: %q", y.Names)
	}
	answers(t, f, list("/a"), named(want...))
	kept := f.Do(read("/f", 0, 1024))
	answers(t, f, write("/f", 0, "HELLO"), sized(5))
	if kept.Data != "hello" || !slices.Equal(y.Names, want) {
		t.Errorf("rule 3: an answer went with what was written behind it: %q", kept.Data)
	}
}
