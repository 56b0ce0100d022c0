package upper_test

import (
	"slices"
	"strings"
	"testing"

	"veneer/api"
	"veneer/upper"
)

// P12.2 to P12.4: the chapter's examples.
func TestExamples(t *testing.T) {
	u := made(t)
	puts(t, u, dir("/a"), api.OK)
	puts(t, u, file("/a/f", "hi"), api.OK)
	has(t, "the examples", u, dir("/a"), file("/a/f", "hi"))
	puts(t, u, file("/b/f", ""), api.ErrNone)
	puts(t, u, white("/a"), api.ErrNotEmpty)
	puts(t, u, file("/a/f/x", ""), api.ErrNotDir)
	puts(t, u, api.Inode{Path: "/o", Kind: api.InodeFile, Opaque: true}, api.ErrArg)
	if got := u.Drop(list("a")); got != 2 {
		t.Errorf("P12.3: Drop(a): %d; want 2", got)
	}
	has(t, "the examples, at their end", u)
}

// P12.1: quotas at, within and outside of their bounds, either one and both.
func TestNew(t *testing.T) {
	nodes := map[int]bool{0: true, 1: true, 2: true, 64: true, 127: true, 128: true, -1: false, -128: false, 129: false, 130: false, 1024: false, 8192: false, -1 << 63: false, 1<<63 - 1: false, 1 << 32: false, 1<<32 + 1: false, -1 << 32: false}
	bytes := map[int]bool{0: true, 1: true, 2: true, 128: true, 129: true, 8191: true, 8192: true, -1: false, -8192: false, 8193: false, 8194: false, 65536: false, -1 << 63: false, 1<<63 - 1: false, 1 << 32: false, 1<<32 + 1: false, -1 << 32: false}
	for n, fine := range nodes {
		for b, too := range bytes {
			u, e := upper.New(n, b)
			if !fine || !too {
				if e != api.ErrArg || u != nil {
					t.Errorf("P12.1: New(%d, %d): %v, %d; want nil, ErrArg", n, b, u != nil, e)
				}
				continue
			}
			if e != api.OK || u == nil {
				t.Errorf("P12.1: New(%d, %d): %d", n, b, e)
				continue
			}
			has(t, "P12.1: a new one", u)
			if got := string(u.Encode()); got != spell(uint64(n), uint64(b)) || u.Over() {
				t.Errorf("P12.1: New(%d, %d): its bytes are %x, Over %v", n, b, got, u.Over())
			}
		}
	}
}

// P12.2: paths of any form are told clean, and are the same path.
func TestPutForms(t *testing.T) {
	for path, clean := range map[string]string{
		"/a": "/a", "//a": "/a", "/a/": "/a", "/./a/.": "/a", "/../a": "/a", "/x/../a": "/a", "/x/y/../../a//": "/a", "/a/b/..": "/a",
		"/d/x": "/d/x", "//d//x//": "/d/x", "/d/./x": "/d/x", "/d/e/../x": "/d/x", "/../d/x/y/..": "/d/x",
		"/...": "/...", "/.a": "/.a", "/-": "/-", "/_._-": "/_._-", "/" + text(16): "/" + text(16), "/Z9": "/Z9",
		strings.Repeat("/a/..", 50) + "/d/x": "/d/x", strings.Repeat("/", 255) + "a": "/a", "/1/2/3/4/5/6/7/8/9/../../../../../../../../../a": "/a",
	} {
		for k, i := range kinds(path) {
			u := made(t, dir("/d"))
			puts(t, u, i, api.OK)
			want := []api.Inode{dir("/d"), kinds(clean)[k]}
			if clean < "/d" {
				slices.Reverse(want)
			}
			has(t, "P12.2: behind a Put of "+path, u, want...)
			puts(t, u, file(clean, "more"), api.OK)
			if u.Count() != 2 {
				t.Errorf("P12.2: %s and %s are two", path, clean)
			}
		}
	}
	u := made(t)
	for _, i := range several() {
		i.Path = strings.ReplaceAll(i.Path, "/", "/./") + "/"
		puts(t, u, i, api.OK)
	}
	has(t, "P12.2: of forms that aren't clean", u, several()...)
}

// wrongPaths: texts of which vpath.Parse has an error.
func wrongPaths() map[string]api.Errno {
	return map[string]api.Errno{
		"": api.ErrPath, "a": api.ErrPath, "a/b": api.ErrPath, "./a": api.ErrPath, "/a b": api.ErrPath, "/a\x00": api.ErrPath, "/é": api.ErrPath, "\\a": api.ErrPath, "/a*/..": api.ErrPath,
		"/" + text(17): api.ErrName, "/" + text(17) + "/..": api.ErrName, "/a/" + text(200): api.ErrName,
		strings.Repeat("/d", 9): api.ErrDeep, strings.Repeat("/d", 100): api.ErrDeep,
		"/" + strings.Repeat("a", 256): api.ErrLong, strings.Repeat("/", 257): api.ErrLong, strings.Repeat("x", 257): api.ErrLong, strings.Repeat("/d", 200): api.ErrLong,
	}
}

// P12.2: what is wrong with a path is told ahead of all others, then that it is the root, then that there is no such kind.
func TestPutPathRootKind(t *testing.T) {
	u := made(t, several()...)
	odd := []api.Inode{{}, {Kind: 9, Data: "x", Opaque: true}, {Kind: 0, Data: text(1025)}, {Kind: api.InodeDir, Data: "x"}, {Kind: api.InodeFile, Opaque: true, Data: text(1025)}, {Kind: api.InodeWhite, Data: text(1025)}, {Kind: api.InodeFile, Data: text(1025)}, {Kind: api.InodeFile, Data: text(1024)}}
	for path, e := range wrongPaths() {
		for _, i := range append(odd, kinds("")...) {
			i.Path = path
			puts(t, u, i, e)
		}
	}
	for _, path := range []string{"/", "//", "/.", "/..", "/a/..", "/../x/y/../..", strings.Repeat("/", 256)} {
		for _, i := range append(odd, kinds("")...) {
			i.Path = path
			puts(t, u, i, api.ErrRoot)
			puts(t, made(t), i, api.ErrRoot)
		}
	}
	for _, kind := range noKinds() {
		for _, path := range []string{"/n", "/a", "/f", "/n/m", "/f/x", "/w/x", "/a/a", "/e/n"} {
			for _, data := range []string{"", "x", text(1024), text(1025)} {
				for _, flag := range []bool{false, true} {
					puts(t, u, api.Inode{Path: path, Kind: kind, Opaque: flag, Data: data}, api.ErrKind)
				}
			}
		}
	}
}

// P12.2: each kind with and without Data and Opaque; ErrArg ahead of ErrBig and of what the place says.
func TestPutData(t *testing.T) {
	paths := map[string]api.Errno{"/n": api.OK, "/e/n": api.OK, "/a/b": api.OK, "/n/m": api.ErrNone, "/a/n/m/o": api.ErrNone, "/f/x": api.ErrNotDir, "/w/x": api.ErrNotDir, "/a": api.ErrNotEmpty}
	for path, at := range paths {
		for _, size := range []int{0, 1, 2, 1023, 1024, 1025, 1026, 4096, 70000} {
			for _, flag := range []bool{false, true} {
				for kind := api.InodeFile; kind <= api.InodeWhite; kind++ {
					want := at
					switch {
					case kind != api.InodeFile && size > 0, kind != api.InodeDir && flag:
						want = api.ErrArg
					case size > 1024:
						want = api.ErrBig
					case kind == api.InodeDir && at == api.ErrNotEmpty:
						want = api.OK
					}
					i := api.Inode{Path: path, Kind: kind, Opaque: flag, Data: text(size)}
					u := made(t, several()...)
					puts(t, u, i, want)
					if got, there := u.Get(strings.Split(path, "/")[1:]); want == api.OK && (!there || got != i) {
						t.Errorf("P12.2: behind a Put of %s: %s, %v", show(i), show(got), there)
					}
				}
			}
		}
	}
}

// P12.2: the directory of a path: the root, a directory, nothing, what is none. Its own directory alone is asked.
func TestPutPlace(t *testing.T) {
	u := made(t, several()...)
	for path, e := range map[string]api.Errno{
		"/n": api.OK, "/a/n": api.OK, "/a/a/n": api.OK, "/e/n": api.OK, "/a.b/n": api.OK, "/d/d/d/d/d/d/d/n": api.OK, "/A": api.OK, "/a-": api.OK,
		"/n/m": api.ErrNone, "/a/n/m": api.ErrNone, "/e/n/m": api.ErrNone, "/n/m/o/p": api.ErrNone, "/A/x": api.ErrNone, "/a-/x": api.ErrNone, "/a-bc/x": api.ErrNone, "/d/d/d/d/d/d/n/n": api.ErrNone,
		"/f/x/y": api.ErrNone, "/w/x/y": api.ErrNone, "/a/b/x/y": api.ErrNone,
		"/f/x": api.ErrNotDir, "/a/b/x": api.ErrNotDir, "/aa/x": api.ErrNotDir, "/a/a/x/y": api.ErrNotDir, "/z/z": api.ErrNotDir,
		"/w/x": api.ErrNotDir, "/a-b/x": api.ErrNotDir, "/a/a/y/y": api.ErrNotDir,
		"/f/x/..": api.OK, "/n/m/../../f": api.OK,
	} {
		for _, i := range kinds(path) {
			puts(t, u.Clone(), i, e)
		}
	}
	puts(t, made(t), dir("/a/b"), api.ErrNone)
	puts(t, made(t), file("/a/b", "x"), api.ErrNone)
}

// P12.2: something else in the place of what is there, with inodes below it or without.
func TestPutAgain(t *testing.T) {
	for _, old := range kinds("/a") {
		for _, i := range kinds("/a") {
			u := made(t, old, file("/aa", "x"), white("/a-b"))
			puts(t, u, i, api.OK)
			has(t, "P12.2: another one at its path", u, i, white("/a-b"), file("/aa", "x"))
		}
	}
	for _, old := range []api.Inode{dir("/a"), opaque("/a")} {
		for _, below := range kinds("/a/b") {
			for _, i := range kinds("/a") {
				u := made(t, old, below)
				if i.Kind != api.InodeDir {
					puts(t, u, i, api.ErrNotEmpty)
					u.Drop(list("a b"))
					puts(t, u, i, api.OK)
					has(t, "P12.2: in the place of an empty directory", u, i)
					continue
				}
				puts(t, u, i, api.OK)
				has(t, "P12.2: a directory in a directory's place", u, i, below)
			}
		}
	}
	u := made(t, several()...)
	for _, path := range []string{"/a", "/a/a", "/a.b", "/d", "/d/d/d/d", "/d/d/d/d/d/d/d"} {
		puts(t, u, file(path, ""), api.ErrNotEmpty)
		puts(t, u, file("/"+path+"/.", "x"), api.ErrNotEmpty)
		puts(t, u, white(path), api.ErrNotEmpty)
		puts(t, u.Clone(), dir(path), api.OK)
		puts(t, u.Clone(), opaque(path), api.OK)
	}
	u = made(t, dir("/a"), dir("/ab"), file("/ab/x", ""), dir("/a-b"), file("/a-b/x", ""))
	puts(t, u, white("/a"), api.OK) // what begins alike doesn't lie below
}

// P12.2: up to MaxInodes and above it; a path that is there needs no room. The errors that come ahead are told ahead.
func TestPutMany(t *testing.T) {
	u := made(t, full()[:api.MaxInodes-1]...)
	last := full()[api.MaxInodes-1]
	puts(t, u, last, api.OK)
	has(t, "P12.2: a full one", u, full()...)
	for _, i := range slices.Concat(kinds("/more"), kinds("/d/more")) {
		puts(t, u, i, api.ErrMany)
	}
	for _, i := range kinds("/n1000") {
		puts(t, u, i, api.OK)
	}
	puts(t, u, opaque("/d"), api.OK)
	puts(t, u, file("/d/1499", "other"), api.OK)
	puts(t, u, api.Inode{Path: "/", Kind: 9}, api.ErrRoot)
	puts(t, u, api.Inode{Path: "/more", Kind: 9}, api.ErrKind)
	puts(t, u, api.Inode{Path: "/more", Kind: api.InodeDir, Data: "x"}, api.ErrArg)
	puts(t, u, file("/more", text(1025)), api.ErrBig)
	puts(t, u, file("/more/x", ""), api.ErrNone)
	puts(t, u, file("/d/1000/x", ""), api.ErrNotDir)
	puts(t, u, file("/d", ""), api.ErrNotEmpty)
	puts(t, u.Clone(), dir("/more"), api.ErrMany)
	if u.Drop(list("d 1000")) != 1 {
		t.Errorf("P12.3: Drop of one of many")
	}
	puts(t, u, dir("/more"), api.OK)
	puts(t, u, dir("/more/x"), api.ErrMany)
	if u.Count() != api.MaxInodes {
		t.Errorf("P12.4: Count %d", u.Count())
	}
}

// P12.2: the quotas aren't asked.
func TestPutOverQuotas(t *testing.T) {
	u := madeOf(t, 0, 0)
	for _, i := range several() {
		puts(t, u, i, api.OK)
	}
	has(t, "P12.2: above both quotas", u, several()...)
	madeOf(t, 0, 0, full()...)
	var big []api.Inode
	for i := range 26 {
		big = append(big, file("/"+string(rune('a'+i)), text(1024)))
	}
	has(t, "P12.2: above MaxBytes", madeOf(t, 128, 8192, big...), big...)
}
