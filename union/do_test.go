package union_test

import (
	"strconv"
	"strings"
	"testing"

	"veneer/api"
	"veneer/union"
)

// step is an operation with its result and the upper branch behind it.
type step struct {
	o      api.Op
	want   api.Result
	behind []api.Inode
}

// plays: operations one behind the other.
func plays(t *testing.T, x *union.Union, steps ...step) {
	t.Helper()
	for _, s := range steps {
		does(t, x, s.o, s.want, s.behind...)
	}
}

// at: the inodes of an upper branch.
func at(inodes ...api.Inode) []api.Inode { return inodes }

func TestExamples(t *testing.T) {
	x := made(t, branch(t), low)
	plays(t, x,
		step{write("/a/f", 2, "!"), sized(3), at(dirNode("/a"), fileNode("/a/f", "hi!"))},
		step{unlink("/b"), api.Result{}, at(dirNode("/a"), fileNode("/a/f", "hi!"), white("/b"))},
		step{create("/b"), api.Result{}, at(dirNode("/a"), fileNode("/a/f", "hi!"), fileNode("/b", ""))},
		step{rmdir("/a"), api.Result{Code: api.ErrNotEmpty}, at(dirNode("/a"), fileNode("/a/f", "hi!"), fileNode("/b", ""))},
		step{unlink("/a/f"), api.Result{}, at(dirNode("/a"), white("/a/f"), fileNode("/b", ""))},
		step{rmdir("/a"), api.Result{}, at(white("/a"), fileNode("/b", ""))},
		step{mkdir("/a"), api.Result{}, at(opaque("/a"), fileNode("/b", ""))},
		step{list("/a"), named(), at(opaque("/a"), fileNode("/b", ""))},
	)
	refuses(t, made(t, branchOf(t, 1, 99), low), write("/a/f", 0, "x"), api.ErrFull)
}

// under is a layer with directories in one another, a file in each, and an empty one.
func under() []api.File {
	return layer(dir("/d"), dir("/d/e"), file("/d/e/g", "g"), file("/d/f", "low"), dir("/h"), file("/r", "root"))
}

// mkdir and create: lifted, over nothing, over whiteouts, where the layers show something and where they are covered.
func TestAdd(t *testing.T) {
	x := made(t, branch(t), under())
	plays(t, x,
		step{mkdir("/n"), api.Result{}, at(dirNode("/n"))},
		step{create("/n/x"), api.Result{}, at(dirNode("/n"), fileNode("/n/x", ""))},
		step{create("/d/e/x"), api.Result{}, at(dirNode("/d"), dirNode("/d/e"), fileNode("/d/e/x", ""), dirNode("/n"), fileNode("/n/x", ""))},
		step{mkdir("/d/e/y"), api.Result{}, at(dirNode("/d"), dirNode("/d/e"), fileNode("/d/e/x", ""), dirNode("/d/e/y"), dirNode("/n"), fileNode("/n/x", ""))},
	)
	sees(t, "P13.2: mkdir, create", x, dir("/d"), dir("/d/e"), file("/d/e/g", "g"), file("/d/e/x", ""), dir("/d/e/y"), file("/d/f", "low"), dir("/h"), dir("/n"), file("/n/x", ""), file("/r", "root"))

	x = made(t, branch(t, white("/d"), white("/h"), white("/n"), white("/r")), under())
	plays(t, x,
		step{mkdir("/d"), api.Result{}, at(opaque("/d"), white("/h"), white("/n"), white("/r"))},
		step{mkdir("/d/e"), api.Result{}, at(opaque("/d"), dirNode("/d/e"), white("/h"), white("/n"), white("/r"))},
		step{create("/d/e/g"), api.Result{}, at(opaque("/d"), dirNode("/d/e"), fileNode("/d/e/g", ""), white("/h"), white("/n"), white("/r"))},
		step{create("/h"), api.Result{}, at(opaque("/d"), dirNode("/d/e"), fileNode("/d/e/g", ""), fileNode("/h", ""), white("/n"), white("/r"))},
		step{mkdir("/n"), api.Result{}, at(opaque("/d"), dirNode("/d/e"), fileNode("/d/e/g", ""), fileNode("/h", ""), dirNode("/n"), white("/r"))},
		step{mkdir("/r"), api.Result{}, at(opaque("/d"), dirNode("/d/e"), fileNode("/d/e/g", ""), fileNode("/h", ""), dirNode("/n"), opaque("/r"))},
	)
	sees(t, "P13.2: mkdir, create over whiteouts", x, dir("/d"), dir("/d/e"), file("/d/e/g", ""), file("/h", ""), dir("/n"), dir("/r"))

	// A whiteout in a directory that isn't opaque, and in one that is.
	x = made(t, branch(t, dirNode("/d"), white("/d/e"), opaque("/h"), white("/h/e")), under())
	plays(t, x,
		step{mkdir("/d/e"), api.Result{}, at(dirNode("/d"), opaque("/d/e"), opaque("/h"), white("/h/e"))},
		step{mkdir("/h/e"), api.Result{}, at(dirNode("/d"), opaque("/d/e"), opaque("/h"), dirNode("/h/e"))},
	)

	for _, o := range []api.Op{mkdir("/"), create("/"), mkdir("/d"), create("/d"), mkdir("/r"), create("/d/f"), mkdir("//d/./e/"), create("/..")} {
		refuses(t, made(t, branch(t), under()), o, api.ErrThere)
	}
	for _, o := range []api.Op{mkdir("/n/x"), create("/n/x/y"), mkdir("/d/n/x")} {
		refuses(t, made(t, branch(t), under()), o, api.ErrNone)
	}
	for _, o := range []api.Op{mkdir("/r/x"), create("/d/f/x"), create("/d/f/x/y")} {
		refuses(t, made(t, branch(t), under()), o, api.ErrNotDir)
	}
	refuses(t, made(t, branch(t, white("/d")), under()), create("/d/e/x"), api.ErrNone)
	refuses(t, made(t, branch(t, fileNode("/d", "")), under()), create("/d/e/x"), api.ErrNotDir)
}

// write and truncate: of a layer's file, and of the upper branch's.
func TestWrite(t *testing.T) {
	x := made(t, branch(t), under())
	up := at(dirNode("/d"), dirNode("/d/e"))
	plays(t, x,
		step{write("/d/e/g", 1, "one"), sized(4), append(up, fileNode("/d/e/g", "gone"))},
		step{write("/d/e/g", 0, "b"), sized(4), append(up, fileNode("/d/e/g", "bone"))},
		step{write("/d/e/g", 4, ""), sized(4), append(up, fileNode("/d/e/g", "bone"))},
		step{truncate("/d/e/g", 2), sized(2), append(up, fileNode("/d/e/g", "bo"))},
		step{truncate("/d/e/g", 4), sized(4), append(up, fileNode("/d/e/g", "bo\x00\x00"))},
		step{truncate("/d/e/g", 0), sized(0), append(up, fileNode("/d/e/g", ""))},
		step{truncate("/d/f", 1), sized(1), append(up, fileNode("/d/e/g", ""), fileNode("/d/f", "l"))},
		step{write("/./r", 4, "!"), sized(5), append(up, fileNode("/d/e/g", ""), fileNode("/d/f", "l"), fileNode("/r", "root!"))},
	)
	sees(t, "P13.2: write, truncate", x, dir("/d"), dir("/d/e"), file("/d/e/g", ""), file("/d/f", "l"), dir("/h"), file("/r", "root!"))

	// Nothing new is written, and yet the path is lifted.
	does(t, made(t, branch(t), under()), write("/d/f", 0, ""), sized(3), dirNode("/d"), fileNode("/d/f", "low"))
	does(t, made(t, branch(t), under()), truncate("/d/f", 3), sized(3), dirNode("/d"), fileNode("/d/f", "low"))
	does(t, made(t, branch(t), layer(file("/x", ""))), truncate("/x", api.MaxFile), sized(api.MaxFile), fileNode("/x", strings.Repeat("\x00", api.MaxFile)))
	does(t, made(t, branch(t), layer(file("/x", "1"))), write("/x", 1, text(api.MaxFile-1)), sized(api.MaxFile), fileNode("/x", "1"+text(api.MaxFile-1)))

	x = made(t, branch(t, white("/h")), under())
	for _, c := range []struct {
		o    api.Op
		want api.Errno
	}{
		{write("/", 0, ""), api.ErrIsDir}, {truncate("/d", 1), api.ErrIsDir}, {write("/n", 0, ""), api.ErrNone}, {truncate("/h", 0), api.ErrNone}, {write("/r/x", 0, ""), api.ErrNotDir},
		{write("/r", 5, ""), api.ErrRange}, {write("/r", 4, text(api.MaxFile-3)), api.ErrBig}, {write("/r", 5, text(api.MaxFile)), api.ErrRange},
		{write("/r", 0, text(api.MaxFile+1)), api.ErrBig}, {truncate("/r", api.MaxFile+1), api.ErrBig}, {truncate("/r", -1), api.ErrArg},
	} {
		refuses(t, x, c.o, c.want)
	}
}

// unlink and rmdir: of what the upper branch has alone, of what the layers have, of what both have.
func TestRemove(t *testing.T) {
	x := made(t, branch(t, dirNode("/n"), fileNode("/n/x", "1"), fileNode("/o", "2")), under())
	plays(t, x,
		step{unlink("/n/x"), api.Result{}, at(dirNode("/n"), fileNode("/o", "2"))},
		step{rmdir("/n"), api.Result{}, at(fileNode("/o", "2"))},
		step{unlink("/o"), api.Result{}, nil},
		step{unlink("/r"), api.Result{}, at(white("/r"))},
		step{rmdir("/h"), api.Result{}, at(white("/h"), white("/r"))},
		step{unlink("/d/e/g"), api.Result{}, at(dirNode("/d"), dirNode("/d/e"), white("/d/e/g"), white("/h"), white("/r"))},
		step{rmdir("/d/e"), api.Result{}, at(dirNode("/d"), white("/d/e"), white("/h"), white("/r"))},
		step{write("/d/f", 3, "er"), sized(5), at(dirNode("/d"), white("/d/e"), fileNode("/d/f", "lower"), white("/h"), white("/r"))},
		step{unlink("/d/f"), api.Result{}, at(dirNode("/d"), white("/d/e"), white("/d/f"), white("/h"), white("/r"))},
		step{rmdir("/d"), api.Result{}, at(white("/d"), white("/h"), white("/r"))},
	)
	sees(t, "P13.2: all is gone", x)

	// In an opaque directory, or below a file's place, the layers show nothing: no whiteouts.
	x = made(t, branch(t, opaque("/d"), dirNode("/d/e"), fileNode("/d/f", "")), under())
	plays(t, x,
		step{unlink("/d/f"), api.Result{}, at(opaque("/d"), dirNode("/d/e"))},
		step{rmdir("/d/e"), api.Result{}, at(opaque("/d"))},
		step{rmdir("/d"), api.Result{}, at(white("/d"))},
	)
	x = made(t, branch(t, dirNode("/r"), fileNode("/r/x", "")), under())
	plays(t, x,
		step{unlink("/r/x"), api.Result{}, at(dirNode("/r"))},
		step{rmdir("/r"), api.Result{}, at(white("/r"))},
	)

	x = made(t, branch(t, white("/h")), under())
	for _, c := range []struct {
		o    api.Op
		want api.Errno
	}{
		{unlink("/"), api.ErrIsDir}, {unlink("/d"), api.ErrIsDir}, {unlink("/h"), api.ErrNone}, {unlink("/r/x"), api.ErrNotDir}, {unlink("/d/n"), api.ErrNone},
		{rmdir("/"), api.ErrRoot}, {rmdir("/r"), api.ErrNotDir}, {rmdir("/h"), api.ErrNone}, {rmdir("/d"), api.ErrNotEmpty}, {rmdir("/d/e"), api.ErrNotEmpty}, {rmdir("/r/x"), api.ErrNotDir},
	} {
		refuses(t, x, c.o, c.want)
	}
}

func TestRenameFile(t *testing.T) {
	plays(t, made(t, branch(t, fileNode("/x", "1")), under()),
		step{rename("/x", "/y"), api.Result{}, at(fileNode("/y", "1"))},
		step{rename("/y", "/r"), api.Result{}, at(fileNode("/r", "1"))}, // over a layer's file
		step{rename("/r", "/d/e/y"), api.Result{}, at(dirNode("/d"), dirNode("/d/e"), fileNode("/d/e/y", "1"), white("/r"))},
		step{rename("/d/e/g", "/r"), api.Result{}, at(dirNode("/d"), dirNode("/d/e"), white("/d/e/g"), fileNode("/d/e/y", "1"), fileNode("/r", "g"))},
		step{rename("/d/e/y", "/d/f"), api.Result{}, at(dirNode("/d"), dirNode("/d/e"), white("/d/e/g"), fileNode("/d/f", "1"), fileNode("/r", "g"))},
		step{rename("/d/f", "/d/e/g"), api.Result{}, at(dirNode("/d"), dirNode("/d/e"), fileNode("/d/e/g", "1"), white("/d/f"), fileNode("/r", "g"))},
	)
	// Both are lifted, each from where it is.
	does(t, made(t, branch(t), under()), rename("/d/f", "/h/f"), api.Result{}, dirNode("/d"), white("/d/f"), dirNode("/h"), fileNode("/h/f", "low"))
	does(t, made(t, branch(t), under()), rename("/d/f", "/d/e/g"), api.Result{}, dirNode("/d"), dirNode("/d/e"), fileNode("/d/e/g", "low"), white("/d/f"))
	does(t, made(t, branch(t, white("/h")), under()), rename("/r", "/h"), api.Result{}, fileNode("/h", "root"), white("/r"))
}

func TestRenameDir(t *testing.T) {
	moved := func(path string) []api.Inode {
		return at(dirNode(path), dirNode(path+"/e"), fileNode(path+"/e/g", "g"), fileNode(path+"/f", "low"))
	}
	x := made(t, branch(t), under())
	plays(t, x,
		step{rename("/d", "/n"), api.Result{}, append(at(white("/d")), moved("/n")...)},
		step{rename("/n", "/d"), api.Result{}, append(at(opaque("/d")), moved("/d")[1:]...)}, // back, where the layers show something
		step{rename("/d", "/h"), api.Result{}, append(at(white("/d"), opaque("/h")), moved("/h")[1:]...)},
		step{mkdir("/d"), api.Result{}, append(at(opaque("/d"), opaque("/h")), moved("/h")[1:]...)},
		step{rename("/h", "/d/e"), api.Result{}, append(append(at(opaque("/d")), moved("/d/e")...), white("/h"))}, // an opaque directory shows nothing
	)
	sees(t, "P13.2: rename", x, dir("/d"), dir("/d/e"), dir("/d/e/e"), file("/d/e/e/g", "g"), file("/d/e/f", "low"), file("/r", "root"))

	// Whiteouts and opaque directories don't go along: what is seen does.
	x = made(t, branch(t, dirNode("/d"), opaque("/d/e"), fileNode("/d/e/new", "1"), white("/d/f"), white("/d/none")), under())
	does(t, x, rename("/d", "/h/d"), api.Result{}, white("/d"), dirNode("/h"), dirNode("/h/d"), dirNode("/h/d/e"), fileNode("/h/d/e/new", "1"))

	// What an empty directory hides goes: whiteouts below To.
	x = made(t, branch(t, dirNode("/d"), white("/d/e"), white("/d/f"), dirNode("/n"), fileNode("/n/x", "1")), under())
	does(t, x, rename("/n", "/d"), api.Result{}, opaque("/d"), fileNode("/d/x", "1"))

	// A directory that lies near another one by its text alone stays.
	x = made(t, branch(t, dirNode("/a"), fileNode("/a/x", ""), dirNode("/a-"), fileNode("/a-/x", ""), fileNode("/ab", "")))
	does(t, x, rename("/a", "/b"), api.Result{}, dirNode("/a-"), fileNode("/a-/x", ""), fileNode("/ab", ""), dirNode("/b"), fileNode("/b/x", ""))
	x = made(t, branch(t, dirNode("/a"), fileNode("/a/x", ""), dirNode("/b-"), fileNode("/b-/x", "")))
	does(t, x, rename("/a", "/b"), api.Result{}, dirNode("/b"), fileNode("/b/x", ""), dirNode("/b-"), fileNode("/b-/x", ""))

	// As deep as may be.
	x = made(t, branch(t), layer(dir("/a"), dir("/a/b"), dir("/a/b/c"), file("/a/b/c/d", ""), dir("/1"), dir("/1/2"), dir("/1/2/3"), dir("/1/2/3/4")))
	answers(t, x, rename("/a", "/1/2/3/4/5"), api.Result{})
	if _, there := x.Upper().Get(names("/1/2/3/4/5/b/c/d")); !there {
		t.Error("P13.2: rename to the greatest depth")
	}
	refuses(t, x, rename("/1/2/3/4/5", "/1/2/3/4/5/b"), api.ErrWithin)
	answers(t, x, mkdir("/1/2/3/4/6"), api.Result{})
	refuses(t, x, rename("/1/2/3/4/5", "/1/2/3/4/6/7"), api.ErrDeep)
}

func TestRenameErrors(t *testing.T) {
	x := made(t, branch(t, white("/h"), dirNode("/n"), fileNode("/o", "")), under())
	for _, c := range []struct {
		o    api.Op
		want api.Errno
	}{
		{rename("/", "/x"), api.ErrRoot}, {rename("/x", "/"), api.ErrRoot}, {rename("/h", "/x"), api.ErrNone}, {rename("/r/x", "/x"), api.ErrNotDir},
		{rename("/r", "/h/x"), api.ErrNone}, {rename("/r", "/o/x"), api.ErrNotDir}, {rename("/d", "/d/x"), api.ErrWithin}, {rename("/r", "/d"), api.ErrIsDir},
		{rename("/d", "/r"), api.ErrNotDir}, {rename("/n", "/d"), api.ErrNotEmpty}, {rename("/r", "r"), api.ErrPath}, {rename("r", "/x"), api.ErrPath},
		{rename("/d/e", "/d"), api.ErrNotEmpty}, {rename("/d/f", "/d"), api.ErrIsDir},
	} {
		refuses(t, x, c.o, c.want)
	}
}

// Of like paths nothing is changed: nothing is lifted either.
func TestRenameLike(t *testing.T) {
	for _, o := range []api.Op{rename("/d", "/d"), rename("/d/f", "/d/./f"), rename("/d/e/../f", "//d/f/"), rename("/r", "/r"), rename("/o", "/o")} {
		does(t, made(t, branch(t, fileNode("/o", "1")), under()), o, api.Result{}, fileNode("/o", "1"))
	}
	refuses(t, made(t, branch(t), under()), rename("/x", "/x"), api.ErrNone)
	refuses(t, made(t, branch(t, white("/d")), under()), rename("/d", "/d"), api.ErrNone)
}

// The quota of inodes: lifted paths and whiteouts count.
func TestFullInodes(t *testing.T) {
	for _, c := range []struct {
		o     api.Op
		needs int
	}{
		{mkdir("/n"), 1}, {create("/n"), 1}, {mkdir("/d/n"), 2}, {create("/d/e/n"), 3}, {write("/r", 0, ""), 1}, {write("/d/e/g", 1, ""), 3}, {truncate("/d/f", 0), 2},
		{unlink("/r"), 1}, {unlink("/d/e/g"), 3}, {rmdir("/h"), 1}, {rename("/r", "/n"), 2}, {rename("/d/f", "/h/f"), 4}, {rename("/d", "/n"), 5}, {rename("/d", "/h"), 5}, {rename("/d/e", "/e"), 4}, {rename("/r", "/r"), 0},
	} {
		for quota := range c.needs {
			refuses(t, made(t, branchOf(t, quota, api.MaxBytes), under()), c.o, api.ErrFull)
		}
		x := made(t, branchOf(t, c.needs, api.MaxBytes), under())
		if r, err := x.Do(c.o); r.Code != api.OK || err != nil || x.Upper().Count() != c.needs {
			t.Errorf("P13.2: %s with a quota of %d: %d, %v, %d inodes", show(c.o), c.needs, r.Code, err, x.Upper().Count())
		}
	}
}

// The quota of bytes: a layer's bytes count when they are lifted.
func TestFullBytes(t *testing.T) {
	for _, c := range []struct {
		o     api.Op
		needs int
	}{
		{write("/r", 0, ""), 4}, {write("/r", 4, "s"), 5}, {write("/d/f", 0, "slow"), 4}, {truncate("/r", 2), 2}, {truncate("/r", 9), 9}, {truncate("/r", 0), 0},
		{unlink("/r"), 0}, {create("/n"), 0}, {mkdir("/n"), 0}, {rename("/r", "/n"), 4}, {rename("/d", "/n"), 4}, {rename("/d", "/h"), 4}, {rename("/d/e", "/n"), 1}, {rmdir("/h"), 0},
	} {
		if c.needs > 0 {
			refuses(t, made(t, branchOf(t, api.MaxNodes, c.needs-1), under()), c.o, api.ErrFull)
		}
		x := made(t, branchOf(t, api.MaxNodes, c.needs), under())
		if r, err := x.Do(c.o); r.Code != api.OK || err != nil || x.Upper().Size() != c.needs {
			t.Errorf("P13.2: %s with a quota of %d bytes: %d, %v, %d bytes", show(c.o), c.needs, r.Code, err, x.Upper().Size())
		}
	}
}

// What is full takes what makes room, and refuses the rest ever again.
func TestRoom(t *testing.T) {
	x := made(t, branchOf(t, 2, 4), low)
	plays(t, x,
		step{create("/x"), api.Result{}, at(fileNode("/x", ""))},
		step{write("/x", 0, "1234"), sized(4), at(fileNode("/x", "1234"))},
		step{mkdir("/y"), api.Result{}, at(fileNode("/x", "1234"), dirNode("/y"))},
	)
	for _, o := range []api.Op{mkdir("/z"), create("/z"), write("/x", 4, "5"), truncate("/x", 5), write("/b", 0, ""), unlink("/b"), rename("/b", "/c"), unlink("/a/f"), write("/a/f", 0, "")} {
		refuses(t, x, o, api.ErrFull)
		refuses(t, x, o, api.ErrFull)
	}
	plays(t, x,
		step{write("/x", 3, "5"), sized(4), at(fileNode("/x", "1235"), dirNode("/y"))},
		step{rename("/x", "/z"), api.Result{}, at(dirNode("/y"), fileNode("/z", "1235"))},
		step{rename("/z", "/b"), api.Result{}, at(fileNode("/b", "1235"), dirNode("/y"))},
		step{rmdir("/y"), api.Result{}, at(fileNode("/b", "1235"))},
		step{unlink("/b"), api.Result{}, at(white("/b"))},
		step{mkdir("/y"), api.Result{}, at(white("/b"), dirNode("/y"))},
		step{mkdir("/b"), api.Result{}, at(opaque("/b"), dirNode("/y"))},
	)
	none := made(t, branchOf(t, 0, 0), low)
	refuses(t, none, mkdir("/x"), api.ErrFull)
	refuses(t, none, unlink("/b"), api.ErrFull)
	answers(t, none, list("/"), named("a/", "b"))
	answers(t, none, forget(1), api.Result{})
	answers(t, none, rename("/b", "/b"), api.Result{})
}

// An upper branch that has more than its quotas allow from the first on.
func TestOver(t *testing.T) {
	x := made(t, branchOf(t, 1, 3, fileNode("/x", "12"), fileNode("/y", "34")), low)
	for _, o := range []api.Op{mkdir("/z"), create("/a/z"), write("/x", 0, "9"), truncate("/x", 0), unlink("/b"), rename("/x", "/z"), rename("/x", "/x"), rename("/b", "/b")} {
		refuses(t, x, o, api.ErrFull)
	}
	// Another error than that is told ahead of it.
	for _, c := range []struct {
		o    api.Op
		want api.Errno
	}{
		{mkdir("/x"), api.ErrThere}, {create("/n/x"), api.ErrNone}, {write("/a", 0, ""), api.ErrIsDir}, {truncate("/x/y", 0), api.ErrNotDir}, {unlink("/n"), api.ErrNone}, {rmdir("/a"), api.ErrNotEmpty}, {rename("/a", "/a/b"), api.ErrWithin}, {api.Op{Kind: 12}, api.ErrKind},
	} {
		refuses(t, x, c.o, c.want)
	}
	answers(t, x, read("/x", 0, 9), api.Result{Size: 2, Data: "12"})
	answers(t, x, stat("/"), api.Result{Dir: true, Size: 4})
	answers(t, x, forget(api.MaxClients), api.Result{})
	does(t, x, unlink("/x"), api.Result{}, fileNode("/y", "34"))
	does(t, made(t, branchOf(t, 1, 3, fileNode("/x", "12"), fileNode("/y", "34"))), rename("/x", "/y"), api.Result{}, fileNode("/y", "12"))
}

// An upper branch that can hold no more inodes at all: those that go make room for those that come, in whichever order they are told.
func TestMostInodes(t *testing.T) {
	u := branchOf(t, 3, 0, dirNode("/q"))
	for i := 1; i < api.MaxInodes; i++ {
		if e := u.Put(white("/q/" + strconv.Itoa(i))); e != api.OK {
			t.Fatal(e)
		}
	}
	x := made(t, u, layer(dir("/a"), dir("/a/d"), dir("/b")))
	for _, o := range []api.Op{mkdir("/n"), create("/a/n"), rmdir("/b"), rename("/b", "/c"), rename("/b", "/q/b"), rmdir("/a/d"), mkdir("/q/1"), rename("/q", "/q")} {
		refuses(t, x, o, api.ErrFull)
	}
	answers(t, x, list("/q"), named())
	does(t, x.Clone(), rmdir("/q"), api.Result{})
	does(t, x.Clone(), rename("/q", "/b"), api.Result{}, opaque("/b"))
	does(t, x, rename("/a/d", "/q"), api.Result{}, dirNode("/a"), white("/a/d"), dirNode("/q"))
}

// What only reads: each result, each error, of layers and the upper branch alike.
func TestReads(t *testing.T) {
	x := made(t, branch(t, dirNode("/d"), fileNode("/d/new", "new"), dirNode("/d/sub"), white("/h")), under(), layer(dir("/d"), file("/d-", "1"), file("/d/f", "hidden"), file("/d/last", "")))
	answers(t, x, list("/"), named("d/", "d-", "r"))
	answers(t, x, list("/d"), named("e/", "f", "last", "new", "sub/"))
	answers(t, x, list("//d/sub/."), named())
	answers(t, x, stat("/"), api.Result{Dir: true, Size: 3})
	answers(t, x, stat("/d"), api.Result{Dir: true, Size: 5})
	answers(t, x, stat("/d/new"), sized(3))
	answers(t, x, read("/d/f", 1, 1), api.Result{Size: 3, Data: "o"})
	answers(t, x, read("/d/f", 3, 1), sized(3))
	answers(t, x, read("/d/new", 0, api.MaxFile), api.Result{Size: 3, Data: "new"})
	answers(t, x, forget(1), api.Result{})
	for _, c := range []struct {
		o    api.Op
		want api.Errno
	}{
		{read("/d", 0, 1), api.ErrIsDir}, {read("/h", 0, 1), api.ErrNone}, {read("/r/x", 0, 1), api.ErrNotDir}, {read("/r", 5, 1), api.ErrRange}, {read("/r", 0, api.MaxFile+1), api.ErrBig}, {read("/r", -1, 0), api.ErrArg},
		{list("/r"), api.ErrNotDir}, {list("/h"), api.ErrNone}, {list("/r/x"), api.ErrNotDir}, {stat("/h"), api.ErrNone}, {stat("/r/x"), api.ErrNotDir}, {stat(""), api.ErrPath}, {list("/" + text(17)), api.ErrName},
		{stat("/1/2/3/4/5/6/7/8/9"), api.ErrDeep}, {stat("/" + text(api.MaxText)), api.ErrLong}, {forget(0), api.ErrArg}, {forget(api.MaxClients + 1), api.ErrArg}, {api.Op{Kind: api.OpForget, At: 1, Path: "/x"}, api.ErrArg},
	} {
		refuses(t, x, c.o, c.want)
	}
}

// Operations that are none: the error has no word, but the path as it was told.
func TestNoOperation(t *testing.T) {
	x := made(t, branch(t), low)
	for _, kind := range []int{0, -1, 12, 255, 256, 257, 1 << 32, 1<<32 + 1, -1 << 63, 1<<63 - 1} {
		refuses(t, x, api.Op{Kind: kind, Path: "/a"}, api.ErrKind)
		refuses(t, x, api.Op{Kind: kind, Path: "\xff\x00 no path"}, api.ErrKind)
	}
	for kind := api.OpMkdir; kind <= api.OpForget; kind++ {
		refuses(t, x, api.Op{Kind: kind, Path: "/a", At: -1, Size: -1}, api.ErrArg)
		refuses(t, x, api.Op{Kind: kind, Path: "//b/../a/./", To: "x", Data: "x", At: 1, Size: 1}, api.ErrArg)
	}
	for _, path := range []string{"", "a", "/a b", " /a", "/a\x00", "/é", strings.Repeat("/a", 200), "/" + text(17)} {
		o := mkdir(path)
		r, err := x.Do(o)
		if r.Code == api.OK {
			t.Errorf("P13.2: mkdir %q: OK", path)
		}
		errs(t, o, r.Code, err)
	}
	// The path is told as it was, not clean.
	r, err := x.Do(mkdir("//a/./"))
	errs(t, mkdir("//a/./"), api.ErrThere, err)
	if r.Code != api.ErrThere || err.Error() != "mkdir //a/./: veneer: error 5" {
		t.Errorf("P13.2: mkdir //a/./: %v, %v", r, err)
	}
}

// List: the order of paths isn't that of texts.
func TestList(t *testing.T) {
	x := made(t, branch(t, fileNode("/b", "2"), dirNode("/a"), fileNode("/a/z", "1")), layer(file("/a-b", ""), file("/a.c", ""), dir("/a"), file("/a/b", ""), file("/A", ""), file("/aa", "")))
	sees(t, "P13.2", x, file("/A", ""), dir("/a"), file("/a/b", ""), file("/a/z", "1"), file("/a-b", ""), file("/a.c", ""), file("/aa", ""), file("/b", "2"))
	answers(t, x, create("//a/./c/../c"), api.Result{})
	sees(t, "P13.2", x, file("/A", ""), dir("/a"), file("/a/b", ""), file("/a/c", ""), file("/a/z", "1"), file("/a-b", ""), file("/a.c", ""), file("/aa", ""), file("/b", "2"))
	has(t, "P13.2", x, dirNode("/a"), fileNode("/a/c", ""), fileNode("/a/z", "1"), fileNode("/b", "2"))
}

func TestShown(t *testing.T) {
	u := branch(t, fileNode("/c", ""), dirNode("/d"), white("/d/e"), fileNode("/d/f", "top"), fileNode("/d/new", ""), white("/h"), opaque("/o"), fileNode("/o/x", ""), dirNode("/p"), fileNode("/p/x", ""), dirNode("/r"))
	x := made(t, u, append(under(), dir("/o"), file("/o/x", ""), dir("/o/y"), file("/p", ""), dir("/q")), layer(dir("/c"), file("/c/x", ""), dir("/p"), file("/p/x", ""), dir("/q"), file("/q/x", "")))
	for path, want := range map[string]bool{
		"/c": true, "/c/x": false, // below a file of the upper branch
		"/d": true, "/d/e": true, "/d/e/g": false, "/d/f": true, "/d/new": false, "/d/none": false,
		"/h": true, "/h/x": false,
		"/o": true, "/o/x": false, "/o/y": false,
		"/p": true, "/p/x": false, // a layer's file covers what the lower one has
		"/q": true, "/q/x": true, "/r": true, "/r/x": false, "/none": false, "/none/x": false,
	} {
		if got := x.Shown(names(path)); got != want {
			t.Errorf("P13.2: Shown(%s): %v; want %v", path, got, want)
		}
	}
	for _, none := range [][]string{nil, {}, {""}, {"", "d"}, {"d", ""}, {"."}, {"d", "."}, {".", "d"}, {".."}, {"q", "..", "q"}, {"/d"}, {"d/"}, {"q/x"}, {"d/f"}, {"/"}, {"d", "/f"}, {text(17)}, {"d\x00"}, {"q", "x", ""},
		{"q", "x", "x", "x", "x", "x", "x", "x", "x"}, strings.Split(strings.Repeat("q ", 5000), " ")} {
		if x.Shown(none) {
			t.Errorf("P13.2: Shown(%.80q): true", none)
		}
	}
	// It changes as the upper branch does.
	answers(t, x, unlink("/q/x"), api.Result{})
	if !x.Shown(names("/q/x")) {
		t.Error("P13.2: Shown(/q/x) behind its unlink: false")
	}
	answers(t, x, rmdir("/q"), api.Result{})
	if x.Shown(names("/q/x")) || !x.Shown(names("/q")) {
		t.Error("P13.2: Shown of /q/x and /q behind rmdir /q")
	}
	answers(t, x, mkdir("/q"), api.Result{})
	if x.Shown(names("/q/x")) || !x.Shown(names("/q")) {
		t.Error("P13.2: Shown of /q/x and /q behind mkdir /q")
	}
}
