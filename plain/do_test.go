package plain_test

import (
	"math"
	"strings"
	"testing"

	"veneer/api"
	"veneer/op"
)

// P11.2: the chapter's examples.
func TestExamples(t *testing.T) {
	f := made(t)
	answers(t, f, mkdir("/a"), api.Result{})
	answers(t, f, create("/a/f"), api.Result{})
	answers(t, f, write("/a/f", 0, "hi"), sized(2))
	refuses(t, f, write("/a/f", 3, "x"), api.ErrRange)
	answers(t, f, rename("/a", "/b"), api.Result{})
	answers(t, f, read("/b/f", 1, 9), api.Result{Data: "i", Size: 2})
	answers(t, f, list("/"), named("b/"))
	refuses(t, f, rmdir("/b"), api.ErrNotEmpty)
	refuses(t, f, rename("/b", "/b/c"), api.ErrWithin)
	refuses(t, f, stat("/b/f/x"), api.ErrNotDir)
	refuses(t, f, unlink("/a"), api.ErrNone)
	has(t, "P11.2", f, dir("/b"), file("/b/f", "hi"))
}

// lookUps: paths that can't be looked up, of several().
func lookUps() map[string]api.Errno {
	return map[string]api.Errno{
		"/n": api.ErrNone, "/a/n": api.ErrNone, "/a/n/m": api.ErrNone, "/n/m/o/p": api.ErrNone, "/e/n": api.ErrNone, "/aaa": api.ErrNone, "/a/a/x-": api.ErrNone, "/a/../n": api.ErrNone, "/A": api.ErrNone,
		"/f/x": api.ErrNotDir, "/f/x/y": api.ErrNotDir, "/f/f/f/f/f/f/f/f": api.ErrNotDir, "/a/b/x": api.ErrNotDir, "/a/a/x/x/n": api.ErrNotDir, "//f/./x/": api.ErrNotDir,
	}
}

// P11.2: what looks up its path tells that error, ahead of all others.
func TestLookUp(t *testing.T) {
	f := made(t, several()...)
	for path, e := range lookUps() {
		for _, o := range []api.Op{
			write(path, 0, ""), write(path, 1, "x"), write(path, 1024, text(1024)), truncate(path, 0), truncate(path, 5), unlink(path), rmdir(path),
			rename(path, path), rename(path, "/n"), rename(path, "/a"), rename(path, "/f"), rename(path, "/a/a/x"), rename(path, "/f/x/y"), rename(path, path+"/below"),
			read(path, 0, 1), read(path, 1024, 0), list(path), stat(path),
		} {
			if op.Check(o) == api.OK {
				refuses(t, f, o, e)
			}
		}
	}
}

// P11.2: mkdir and create.
func TestMkdirCreate(t *testing.T) {
	paths := map[string]api.Errno{
		"/": api.ErrThere, "//": api.ErrThere, "/a/..": api.ErrThere,
		"/n/x": api.ErrNone, "/a/n/x": api.ErrNone, "/n/m/x": api.ErrNone, "/e/n/n/n/n": api.ErrNone,
		"/f/x": api.ErrNotDir, "/f/x/y": api.ErrNotDir, "/a/b/c": api.ErrNotDir, "/a/a/x/y/z": api.ErrNotDir,
		"/a": api.ErrThere, "/a/a": api.ErrThere, "/a/b": api.ErrThere, "/f": api.ErrThere, "/./f/": api.ErrThere, "/e": api.ErrThere, "/d/d/d/d/d/d/d/e": api.ErrThere,
	}
	f := made(t, several()...)
	for path, e := range paths {
		refuses(t, f, mkdir(path), e)
		refuses(t, f, create(path), e)
	}
	does(t, nil, mkdir("/a"), api.Result{}, dir("/a"))
	does(t, nil, create("/a"), api.Result{}, file("/a", ""))
	does(t, []api.File{dir("/a")}, mkdir("//a/./b/"), api.Result{}, dir("/a"), dir("/a/b"))
	does(t, []api.File{dir("/a")}, create("/a/x/../b"), api.Result{}, dir("/a"), file("/a/b", ""))
	for _, name := range []string{"n", "A", "-", "_", "...", text(16)} {
		for _, at := range []string{"/", "/a/", "/e/", "/d/d/d/d/d/d/d/"} {
			for _, o := range []api.Op{mkdir(at + name), create(at + name)} {
				f := made(t, several()...)
				answers(t, f, o, api.Result{})
				answers(t, f, stat(at+name), api.Result{Dir: o.Kind == api.OpMkdir})
				refuses(t, f, o, api.ErrThere)
				if len(f.List()) != len(several())+1 {
					t.Errorf("P11.2: %s: %d paths behind it", show(o), len(f.List()))
				}
			}
		}
	}
}

// P11.2: directories take more names than a tree's do.
func TestManyNames(t *testing.T) {
	f := made(t, dir("/a"))
	var names []string
	for i := range 200 {
		name := text(i%16) + string(rune('A'+i/16)) // 16 lengths of each letter
		answers(t, f, create("/a/"+name), api.Result{})
		names = append(names, name)
	}
	if r := f.Do(list("/a")); r.Size != len(names) || len(r.Names) != len(names) {
		t.Errorf("P11.2: list: %d, %d names; want %d", r.Size, len(r.Names), len(names))
	}
	answers(t, f, stat("/a"), api.Result{Dir: true, Size: len(names)})
}

// P11.2: write at, within and above the length.
func TestWrite(t *testing.T) {
	one := []api.File{file("/f", "hello")}
	for _, r := range []struct {
		at         int
		data, want string
	}{
		{0, "", "hello"}, {3, "", "hello"}, {5, "", "hello"},
		{0, "J", "Jello"}, {0, "HELLO", "HELLO"}, {0, "HELLO!", "HELLO!"},
		{2, "LL", "heLLo"}, {2, "LLO", "heLLO"}, {2, "LLO!!", "heLLO!!"}, {4, "O", "hellO"}, {4, "O!", "hellO!"},
		{5, "!", "hello!"}, {5, "\x00\xff", "hello\x00\xff"}, {5, text(1019), "hello" + text(1019)}, {0, text(1024), text(1024)}, {4, text(1020), "hell" + text(1020)},
	} {
		does(t, one, write("/f", r.at, r.data), sized(len(r.want)), file("/f", r.want))
	}
	for _, at := range []int{6, 7, 1023, 1024} {
		for _, data := range []string{"", "x", text(1018), text(1024)} {
			does(t, one, write("/f", at, data), api.Result{Code: api.ErrRange}, one...)
		}
	}
	does(t, one, write("/f", 5, text(1020)), api.Result{Code: api.ErrBig}, one...)
	does(t, one, write("/f", 1, text(1024)), api.Result{Code: api.ErrBig}, one...)
	does(t, nil, write("/f", 0, "x"), api.Result{Code: api.ErrNone})
	for _, path := range []string{"/", "/a", "/e"} {
		for _, o := range []api.Op{write(path, 0, ""), write(path, 0, "x"), write(path, 1, "x"), write(path, 1024, text(1024))} {
			refuses(t, made(t, several()...), o, api.ErrIsDir)
		}
	}
}

// P11.2: write up to MaxFile, and above it.
func TestWriteFull(t *testing.T) {
	full := []api.File{file("/z", text(1024))}
	does(t, full, write("/z", 1024, ""), sized(1024), full...)
	does(t, full, write("/z", 1023, "x"), sized(1024), file("/z", text(1023)+"x"))
	does(t, full, write("/z", 0, strings.Repeat("x", 1024)), sized(1024), file("/z", strings.Repeat("x", 1024)))
	does(t, full, write("/z", 1024, "x"), api.Result{Code: api.ErrBig}, full...)
	does(t, full, write("/z", 1023, "xy"), api.Result{Code: api.ErrBig}, full...)
	does(t, full, write("/z", 1024, text(1024)), api.Result{Code: api.ErrBig}, full...)
	f := made(t, file("/f", ""))
	for i := range 1024 {
		answers(t, f, write("/f", i, text(1024)[i:i+1]), sized(i+1))
	}
	refuses(t, f, write("/f", 1024, "x"), api.ErrBig)
	has(t, "P11.2: byte by byte", f, file("/f", text(1024)))
}

// P11.2: truncate, shorter and longer.
func TestTruncate(t *testing.T) {
	one := []api.File{file("/f", "hello")}
	for size := range 6 {
		does(t, one, truncate("/f", size), sized(size), file("/f", "hello"[:size]))
	}
	for _, size := range []int{6, 7, 100, 1023, 1024} {
		does(t, one, truncate("/f", size), sized(size), file("/f", "hello"+strings.Repeat("\x00", size-5)))
		does(t, []api.File{file("/f", "")}, truncate("/f", size), sized(size), file("/f", strings.Repeat("\x00", size)))
	}
	f := made(t, one...)
	answers(t, f, truncate("/f", 2), sized(2))
	answers(t, f, truncate("/f", 4), sized(4))
	has(t, "P11.2: what was cut off doesn't come back", f, file("/f", "he\x00\x00"))
	for _, path := range []string{"/", "/a", "/e", "/a/a"} {
		refuses(t, made(t, several()...), truncate(path, 0), api.ErrIsDir)
		refuses(t, made(t, several()...), truncate(path, 1024), api.ErrIsDir)
	}
}

// P11.2: unlink and rmdir.
func TestUnlinkRmdir(t *testing.T) {
	f := made(t, several()...)
	for _, path := range []string{"/", "//", "/a", "/e", "/a/a", "/a/c"} {
		refuses(t, f, unlink(path), api.ErrIsDir)
	}
	refuses(t, f, rmdir("/"), api.ErrRoot)
	refuses(t, f, rmdir("/a/.."), api.ErrRoot)
	refuses(t, made(t), rmdir("/"), api.ErrRoot)
	for _, path := range []string{"/f", "/a/b", "/a-b", "/d/d/d/d/d/d/d/e"} {
		refuses(t, f, rmdir(path), api.ErrNotDir)
	}
	for _, path := range []string{"/a", "/a/a", "/a.b", "/d", "/d/d", "/d/d/d/d/d/d/d"} {
		refuses(t, f, rmdir(path), api.ErrNotEmpty)
	}
	two := []api.File{dir("/a"), file("/aa", "x")}
	does(t, two, rmdir("/a"), api.Result{}, file("/aa", "x"))
	does(t, two, unlink("/aa"), api.Result{}, dir("/a"))
	does(t, []api.File{dir("/a"), dir("/a-b"), file("/a-b/c", "")}, rmdir("//a/"), api.Result{}, dir("/a-b"), file("/a-b/c", ""))
	for _, o := range []api.Op{unlink("/a/a/x"), rmdir("/a/a"), unlink("/a/b"), rmdir("/a/c"), rmdir("/a")} {
		answers(t, f, o, api.Result{})
		refuses(t, f, o, api.ErrNone)
	}
	has(t, "P11.2: all of /a is gone", f, several()[5:]...)
	answers(t, f, create("/a"), api.Result{})
	answers(t, f, read("/a", 0, 9), api.Result{})
}

// P11.2: what is gone leaves nothing for what comes in its place.
func TestAnew(t *testing.T) {
	f := made(t, file("/f", "hello"))
	answers(t, f, unlink("/f"), api.Result{})
	answers(t, f, create("/f"), api.Result{})
	answers(t, f, read("/f", 0, 9), api.Result{})
	answers(t, f, unlink("/f"), api.Result{})
	answers(t, f, mkdir("/f"), api.Result{})
	answers(t, f, list("/f"), named())
}

// P11.2: read from anywhere, as much as there is.
func TestRead(t *testing.T) {
	f := made(t, several()...)
	for _, r := range []struct {
		path string
		data string
	}{{"/f", "hello"}, {"/a/b", ""}, {"/aa", "\x00\xff"}, {"/z", text(1024)}, {"/d/d/d/d/d/d/d/e", "deep"}} {
		for _, at := range []int{0, 1, 2, 4, 5, 6, 1023, 1024} {
			for _, size := range []int{0, 1, 2, 3, 5, 9, 1023, 1024} {
				if at > len(r.data) {
					refuses(t, f, read(r.path, at, size), api.ErrRange)
					continue
				}
				want := r.data[at:min(len(r.data), at+size)]
				answers(t, f, read(r.path, at, size), api.Result{Data: want, Size: len(r.data)})
			}
		}
	}
	for _, path := range []string{"/", "/a", "/e"} {
		refuses(t, f, read(path, 0, 0), api.ErrIsDir)
		refuses(t, f, read(path, 1024, 1024), api.ErrIsDir)
	}
}

// P11.2: list and stat of the root, of directories and files. Names rise as names: their strokes don't count.
func TestListStat(t *testing.T) {
	f := made(t, several()...)
	for path, names := range map[string][]string{
		"/": {"a/", "a-b", "a.b/", "aa", "d/", "e/", "f", "z"}, "/a": {"a/", "b", "c/"}, "/a/a": {"x"}, "/a/c": nil, "/e": nil, "/a.b": {"x"}, "/d": {"d/"}, "/d/d/d/d/d/d/d": {"e", "f/"}, "/d/d/d/d/d/d/d/f": nil, "//a/../e/.": nil,
	} {
		answers(t, f, list(path), named(names...))
		answers(t, f, stat(path), api.Result{Dir: true, Size: len(names)})
	}
	for path, size := range map[string]int{"/f": 5, "/a/b": 0, "/a/a/x": 70, "/z": 1024, "/aa": 2, "/./f/": 5} {
		refuses(t, f, list(path), api.ErrNotDir)
		answers(t, f, stat(path), sized(size))
	}
}

// P11.2: forget does nothing.
func TestForget(t *testing.T) {
	for client := 1; client <= api.MaxClients; client++ {
		does(t, several(), forget(client), api.Result{}, several()...)
	}
}

// P11.2: operations that op.Check refuses, ahead of all that a path could tell.
func TestRefusedByCheck(t *testing.T) {
	f := made(t, several()...)
	long, deep, name := "/"+text(256), strings.Repeat("/a", 9), "/"+text(17)
	for _, r := range []struct {
		o api.Op
		e api.Errno
	}{
		{api.Op{}, api.ErrKind}, {api.Op{Kind: 12, Path: "/a"}, api.ErrKind}, {api.Op{Kind: -1}, api.ErrKind}, {api.Op{Kind: math.MinInt}, api.ErrKind}, {api.Op{Kind: math.MaxInt}, api.ErrKind},
		{api.Op{Kind: api.OpMkdir, Path: "/", Size: 1}, api.ErrArg}, {api.Op{Kind: api.OpStat, Path: "/n", To: "/a"}, api.ErrArg}, {api.Op{Kind: api.OpUnlink, Path: "/f", Data: "x"}, api.ErrArg},
		{write("/f", -1, "x"), api.ErrArg}, {write("/n", math.MinInt, ""), api.ErrArg}, {truncate("/f", -1), api.ErrArg}, {read("/f", 0, -1), api.ErrArg}, {read("/a", -1, 0), api.ErrArg},
		{forget(0), api.ErrArg}, {forget(9), api.ErrArg}, {forget(-1), api.ErrArg}, {api.Op{Kind: api.OpForget, At: 1, Path: "/f"}, api.ErrArg},
		{write("/n", 0, text(1025)), api.ErrBig}, {write("/f", 1025, ""), api.ErrBig}, {write("/a", math.MaxInt, "x"), api.ErrBig}, {truncate("/f", 1025), api.ErrBig}, {truncate("/a", math.MaxInt), api.ErrBig}, {read("/f", 0, 1025), api.ErrBig}, {read("/n", math.MaxInt, math.MaxInt), api.ErrBig},
		{mkdir(""), api.ErrPath}, {create("f"), api.ErrPath}, {rmdir("/a b"), api.ErrPath}, {stat(long), api.ErrLong}, {list(deep), api.ErrDeep}, {unlink(name), api.ErrName}, {mkdir(deep), api.ErrDeep},
		{rename("f", "/"), api.ErrPath}, {rename("/", "f"), api.ErrPath}, {rename("/f", deep), api.ErrDeep}, {rename("/n", long), api.ErrLong}, {rename(name, long), api.ErrName}, {rename("/f", ""), api.ErrPath},
	} {
		refuses(t, f, r.o, r.e)
	}
	has(t, "P11.2", f, several()...)
}

// P11.2: rename, each error in its place.
func TestRenameErrors(t *testing.T) {
	f := made(t, several()...)
	for _, r := range []struct {
		path, to string
		e        api.Errno
	}{
		{"/", "/", api.ErrRoot}, {"/", "/n", api.ErrRoot}, {"/", "/a", api.ErrRoot}, {"/", "/f/x", api.ErrRoot}, {"/", "/n/x", api.ErrRoot},
		{"/f", "/", api.ErrRoot}, {"/a", "/", api.ErrRoot}, {"/n", "/", api.ErrRoot}, {"/f/x", "/", api.ErrRoot}, {"/a/..", "/b/..", api.ErrRoot},
		{"/n", "/m", api.ErrNone}, {"/n", "/f/x", api.ErrNone}, {"/n", "/n", api.ErrNone}, {"/n", "/n/m", api.ErrNone}, {"/a/n", "/a", api.ErrNone},
		{"/f/x", "/n/x", api.ErrNotDir}, {"/f/x", "/f/x", api.ErrNotDir}, {"/f/x/y", "/a/a", api.ErrNotDir}, {"/f/x", "/f", api.ErrNotDir},
		{"/f", "/n/x", api.ErrNone}, {"/a", "/n/x", api.ErrNone}, {"/a", "/a/n/m", api.ErrNone}, {"/d", "/d/d/n/n", api.ErrNone}, {"/d", "/e/n/n/n/n/n/n/n", api.ErrNone},
		{"/f", "/z/x", api.ErrNotDir}, {"/f", "/f/x", api.ErrNotDir}, {"/f", "/f/x/y", api.ErrNotDir}, {"/a", "/f/x", api.ErrNotDir}, {"/a", "/f/x/y", api.ErrNotDir}, {"/a", "/a/b/x", api.ErrNotDir}, {"/a", "/a/a/x/y", api.ErrNotDir},
		{"/a", "/a/n", api.ErrWithin}, {"/a", "/a/a", api.ErrWithin}, {"/a", "/a/b", api.ErrWithin}, {"/a", "/a/c", api.ErrWithin}, {"/a", "/a/a/x", api.ErrWithin}, {"/a", "/a/c/n", api.ErrWithin}, {"/e", "/e/n", api.ErrWithin}, {"/d", "/d/d/d/d/d/d/d/n", api.ErrWithin}, {"/d", "/d/d", api.ErrWithin}, {"/./a", "/e/../a//n", api.ErrWithin},
		{"/f", "/a", api.ErrIsDir}, {"/f", "/e", api.ErrIsDir}, {"/a/b", "/a", api.ErrIsDir}, {"/a/a/x", "/a", api.ErrIsDir}, {"/f", "/d/d/d/d/d/d/d/f", api.ErrIsDir},
		{"/a", "/f", api.ErrNotDir}, {"/e", "/f", api.ErrNotDir}, {"/a/c", "/a/b", api.ErrNotDir}, {"/d", "/a/b", api.ErrNotDir}, {"/a", "/d/d/d/d/d/d/d/e", api.ErrNotDir},
		{"/a", "/d", api.ErrNotEmpty}, {"/e", "/a", api.ErrNotEmpty}, {"/a/c", "/a", api.ErrNotEmpty}, {"/a/a", "/a", api.ErrNotEmpty}, {"/a", "/d/d/d/d/d/d/d", api.ErrNotEmpty}, {"/d/d", "/d", api.ErrNotEmpty},
		{"/a", "/d/d/d/d/d/d/d/n", api.ErrDeep}, {"/a", "/d/d/d/d/d/d/d/f", api.ErrDeep}, {"/d", "/e/n", api.ErrDeep}, {"/d", "/a/c", api.ErrDeep}, {"/a", "/d/d/d/d/d/d/n", api.ErrDeep}, {"/a.b", "/d/d/d/d/d/d/d/n", api.ErrDeep},
	} {
		refuses(t, f, rename(r.path, r.to), r.e)
	}
	has(t, "P11.2", f, several()...)
}

// P11.2: rename onto itself changes nothing, in whatever forms the paths are told.
func TestRenameOntoItself(t *testing.T) {
	for _, at := range several() {
		does(t, several(), rename(at.Path, at.Path), api.Result{}, several()...)
		does(t, several(), rename("/."+at.Path+"/", "/e/.."+at.Path), api.Result{}, several()...)
	}
}

// P11.2: rename to where nothing is, onto a file, onto an empty directory.
func TestRename(t *testing.T) {
	small := []api.File{dir("/a"), dir("/a/b"), file("/a/b/x", "1"), file("/a/y", "2"), file("/aa", "3"), dir("/c"), file("/f", "4")}
	for _, r := range []struct {
		path, to string
		behind   []api.File
	}{
		{"/f", "/n", []api.File{dir("/a"), dir("/a/b"), file("/a/b/x", "1"), file("/a/y", "2"), file("/aa", "3"), dir("/c"), file("/n", "4")}},
		{"/f", "/aa", []api.File{dir("/a"), dir("/a/b"), file("/a/b/x", "1"), file("/a/y", "2"), file("/aa", "4"), dir("/c")}},
		{"/f", "/a/b/x", []api.File{dir("/a"), dir("/a/b"), file("/a/b/x", "4"), file("/a/y", "2"), file("/aa", "3"), dir("/c")}},
		{"/a/b/x", "/x", []api.File{dir("/a"), dir("/a/b"), file("/a/y", "2"), file("/aa", "3"), dir("/c"), file("/f", "4"), file("/x", "1")}},
		{"/a", "/n", []api.File{file("/aa", "3"), dir("/c"), file("/f", "4"), dir("/n"), dir("/n/b"), file("/n/b/x", "1"), file("/n/y", "2")}},
		{"/a", "/c", []api.File{file("/aa", "3"), dir("/c"), dir("/c/b"), file("/c/b/x", "1"), file("/c/y", "2"), file("/f", "4")}},
		{"/a", "/c/a", []api.File{file("/aa", "3"), dir("/c"), dir("/c/a"), dir("/c/a/b"), file("/c/a/b/x", "1"), file("/c/a/y", "2"), file("/f", "4")}},
		{"/a/b", "/b", []api.File{dir("/a"), file("/a/y", "2"), file("/aa", "3"), dir("/b"), file("/b/x", "1"), dir("/c"), file("/f", "4")}},
		{"/a/b", "/a/bb", []api.File{dir("/a"), dir("/a/bb"), file("/a/bb/x", "1"), file("/a/y", "2"), file("/aa", "3"), dir("/c"), file("/f", "4")}},
		{"/c", "/a/c", []api.File{dir("/a"), dir("/a/b"), file("/a/b/x", "1"), dir("/a/c"), file("/a/y", "2"), file("/aa", "3"), file("/f", "4")}},
		{"/c", "/a/b/c", []api.File{dir("/a"), dir("/a/b"), dir("/a/b/c"), file("/a/b/x", "1"), file("/a/y", "2"), file("/aa", "3"), file("/f", "4")}},
		{"/a", "/aaa", []api.File{file("/aa", "3"), dir("/aaa"), dir("/aaa/b"), file("/aaa/b/x", "1"), file("/aaa/y", "2"), dir("/c"), file("/f", "4")}},
	} {
		does(t, small, rename(r.path, r.to), api.Result{}, r.behind...)
		does(t, small, rename("/"+r.path+"/.", "/c/.."+r.to+"/"), api.Result{}, r.behind...)
	}
	two := []api.File{dir("/a"), dir("/b")}
	does(t, two, rename("/a", "/b"), api.Result{}, dir("/b"))
	does(t, two, rename("/a", "/b/a"), api.Result{}, dir("/b"), dir("/b/a"))
}

// P11.2: rename to the greatest depth, and one name deeper.
func TestRenameDeep(t *testing.T) {
	below := []api.File{dir("/a"), dir("/a/b"), file("/a/b/c", "x")}
	at := ""
	files := below
	for range 6 {
		at += "/y"
		files = append(files, dir(at))
	}
	want := []api.File{dir("/y"), dir("/y/y"), dir("/y/y/y"), dir("/y/y/y/y"), dir("/y/y/y/y/y"), dir("/y/y/y/y/y/n"), dir("/y/y/y/y/y/n/b"), file("/y/y/y/y/y/n/b/c", "x"), dir("/y/y/y/y/y/y")}
	does(t, files, rename("/a", "/y/y/y/y/y/n"), api.Result{}, want...)
	does(t, files, rename("/a", "/y/y/y/y/y/y/n"), api.Result{Code: api.ErrDeep}, files...)
	f := made(t, files...)
	answers(t, f, rename("/a/b", "/y/y/y/y/y/y/n"), api.Result{})
	answers(t, f, rename("/y/y/y/y/y/y/n/c", "/a/c"), api.Result{})
	answers(t, f, mkdir("/y/y/y/y/y/y/m"), api.Result{})
	answers(t, f, rename("/y/y/y/y/y/y/n", "/y/y/y/y/y/y/m/n"), api.Result{})
	answers(t, f, rename("/a/c", "/y/y/y/y/y/y/m/c"), api.Result{})
	refuses(t, f, mkdir("/y/y/y/y/y/y/m/n/x"), api.ErrDeep)
	answers(t, f, list("/y/y/y/y/y/y/m"), named("c", "n/"))
}
