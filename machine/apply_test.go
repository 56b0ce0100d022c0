package machine_test

import (
	"slices"
	"strconv"
	"testing"

	"veneer/api"
	"veneer/machine"
	"veneer/op"
	"veneer/session"
)

// counts: the count must be this.
func counts(t *testing.T, m *machine.Machine, want int64) {
	t.Helper()
	if got := m.At(); got != want {
		t.Errorf("P15.2: At: %d; want %d", got, want)
	}
}

// The chapter's examples.
func TestApplyExamples(t *testing.T) {
	m := fresh(t, 9, 99, 99)
	applies(t, m, entry(1, 1, mkdir("/a")), done)
	applies(t, m, entry(1, 1, mkdir("/a")), done)
	counts(t, m, 2)
	applies(t, m, entry(1, 2, mkdir("/a")), code(api.ErrThere))
	applies(t, m, entry(1, 1, mkdir("/a")), code(api.ErrForgot))
	applies(t, m, entry(9, 1, mkdir("/a")), code(api.ErrArg))
	applies(t, m, entry(2, 1, forget(1)), sized(1))
	applies(t, m, entry(1, 2, mkdir("/a")), code(api.ErrForgot))
	is(t, "example", m, 7, branchBytes(9, 99, dirNode("/a")), tableBytes(99, gone(1, 2, 3), kept(2, 1, 6, packed(sized(1)))))
}

// used: a machine over low in which client 1's request 5 is kept, client 2's request 5 is forgotten, and client 8's is the last that may be.
func used(t *testing.T) *machine.Machine {
	t.Helper()
	m := fresh(t, 9, 99, 999, low)
	applies(t, m, entry(1, 5, mkdir("/one")), done)
	applies(t, m, entry(2, 5, write("/b", 0, "two")), sized(3))
	applies(t, m, entry(8, api.Greatest, read("/b", 1, 9)), api.Result{Data: "wo", Size: 3})
	applies(t, m, entry(3, 1, forget(2)), sized(1))
	branch := branchBytes(9, 99, fileNode("/b", "two"), dirNode("/one"))
	is(t, "used", m, 4, branch, tableBytes(999, kept(1, 5, 1, packed(done)), gone(2, 5, 2), kept(3, 1, 4, packed(sized(1))), kept(8, api.Greatest, 3, packed(api.Result{Data: "wo", Size: 3}))))
	return m
}

// Bad: what is no client or no request's number is ErrArg, whatever is asked; the count rises, and nothing else is done.
func TestApplyBad(t *testing.T) {
	m := used(t)
	for _, o := range []api.Op{mkdir("/new"), read("/b", 0, 9), forget(1), unlink("/b"), {Kind: 99}} {
		for _, client := range noClients() {
			for _, number := range append(noNumbers(), 1, 5, 6, api.Greatest) {
				adds(t, m, entry(client, number, o), code(api.ErrArg))
			}
		}
		for client := 1; client <= api.MaxClients; client++ {
			for _, number := range noNumbers() {
				adds(t, m, entry(client, number, o), code(api.ErrArg))
			}
		}
	}
}

// New: the least and greatest clients and numbers are done.
func TestApplyBounds(t *testing.T) {
	for _, client := range []int{1, 2, 7, api.MaxClients} {
		for _, number := range []int64{1, 2, api.Greatest - 1, api.Greatest} {
			m := fresh(t, 9, 99, 99)
			applies(t, m, entry(client, number, mkdir("/a")), done)
			is(t, "bounds", m, 1, branchBytes(9, 99, dirNode("/a")), tableBytes(99, kept(client, number, 1, packed(done))))
		}
	}
}

// Old: a number below the client's latest, whether its reply is kept or not, is ErrForgot.
func TestApplyOld(t *testing.T) {
	m := used(t)
	for _, o := range []api.Op{mkdir("/one"), mkdir("/new"), read("/b", 0, 9), forget(1), {Kind: 99}} {
		for client, numbers := range map[int][]int64{1: {1, 2, 4}, 2: {1, 4}, 8: {1, 5, api.Greatest - 1}} {
			for _, number := range numbers {
				adds(t, m, entry(client, number, o), code(api.ErrForgot))
			}
		}
	}
}

// Forgot: the client's latest number whose reply isn't kept is ErrForgot.
func TestApplyForgot(t *testing.T) {
	m := used(t)
	for _, o := range []api.Op{write("/b", 0, "two"), mkdir("/new"), read("/b", 0, 9), forget(2), forget(1), {Kind: 99}} {
		adds(t, m, entry(2, 5, o), code(api.ErrForgot))
	}
}

// Kept: the client's latest number answers as it did, whatever operation comes with it; nothing is done.
func TestApplyKept(t *testing.T) {
	m := used(t)
	for _, o := range []api.Op{mkdir("/one"), rmdir("/one"), mkdir("/new"), read("/a/f", 0, 9), forget(1), forget(8), {Kind: 99}, mkdir("no path")} {
		adds(t, m, entry(1, 5, o), done)
		adds(t, m, entry(3, 1, o), sized(1))
		adds(t, m, entry(8, api.Greatest, o), api.Result{Data: "wo", Size: 3})
	}
	applies(t, m, entry(4, 1, write("/b", 0, "2")), sized(3))
	adds(t, m, entry(8, api.Greatest, read("/b", 1, 9)), api.Result{Data: "wo", Size: 3}) // as it was then
	applies(t, m, entry(5, 1, list("/")), named("a/", "b", "one/"))
	applies(t, m, entry(4, 2, rmdir("/one")), done)
	adds(t, m, entry(5, 1, list("/")), named("a/", "b", "one/"))
	applies(t, m, entry(5, 2, stat("/none")), code(api.ErrNone))
	applies(t, m, entry(4, 3, mkdir("/none")), done)
	adds(t, m, entry(5, 2, stat("/none")), code(api.ErrNone)) // an error is kept, too
}

// New: numbers may leave some out; of each client the latest reply alone is kept.
func TestApplyNew(t *testing.T) {
	m := used(t)
	applies(t, m, entry(1, 9, create("/n")), done)
	applies(t, m, entry(2, 6, unlink("/n")), done)
	applies(t, m, entry(1, 1000, unlink("/n")), code(api.ErrNone))
	applies(t, m, entry(4, 1, write("/a/f", 2, "!")), sized(3))
	is(t, "new", m, 8, branchBytes(9, 99, dirNode("/a"), fileNode("/a/f", "hi!"), fileNode("/b", "two"), dirNode("/one")),
		tableBytes(999, kept(1, 1000, 7, packed(code(api.ErrNone))), kept(2, 6, 6, packed(done)), kept(3, 1, 4, packed(sized(1))), kept(4, 1, 8, packed(sized(3))), kept(8, api.Greatest, 3, packed(api.Result{Data: "wo", Size: 3}))))
	adds(t, m, entry(1, 9, create("/n")), code(api.ErrForgot))
	adds(t, m, entry(1, 1000, unlink("/n")), code(api.ErrNone))
	adds(t, m, entry(2, 6, unlink("/n")), done)
}

// Every kind of operation goes to the union, and its result is kept.
func TestApplyKinds(t *testing.T) {
	m := fresh(t, 9, 99, 8192, low)
	for i, r := range []struct {
		o    api.Op
		want api.Result
	}{
		{mkdir("/d"), done}, {create("/d/x"), done}, {write("/d/x", 0, "data"), sized(4)}, {truncate("/d/x", 6), sized(6)}, {read("/d/x", 3, 9), api.Result{Data: "a\x00\x00", Size: 6}},
		{list("/"), named("a/", "b", "d/")}, {stat("/d"), api.Result{Dir: true, Size: 1}}, {rename("/d", "/e"), done}, {unlink("/e/x"), done}, {rmdir("/e"), done}, {unlink("/b"), done}, {list("/"), named("a/")},
	} {
		before := m.At()
		applies(t, m, entry(4, int64(i+1), r.o), r.want)
		counts(t, m, before+1)
		seated(t, m, kept(4, int64(i+1), before+1, packed(r.want)))
		adds(t, m, entry(4, int64(i+1), r.o), r.want)
	}
	is(t, "kinds", m, 24, branchBytes(9, 99, white("/b")), tableBytes(8192, kept(4, 12, 23, packed(named("a/")))))
}

// Operations that may not be: op.Check's error is the result, and is kept; nothing is done but that.
func TestApplyRefused(t *testing.T) {
	for _, r := range []struct {
		o    api.Op
		want api.Errno
	}{
		{api.Op{}, api.ErrKind}, {api.Op{Kind: 12}, api.ErrKind}, {api.Op{Kind: -1}, api.ErrKind}, {api.Op{Kind: 1 << 40, Path: "/a"}, api.ErrKind},
		{api.Op{Kind: api.OpMkdir, Path: "/x", Size: 1}, api.ErrArg}, {api.Op{Kind: api.OpRead, Path: "/b", At: -1}, api.ErrArg}, {api.Op{Kind: api.OpStat, Path: "/b", To: "/b"}, api.ErrArg},
		{write("/b", 0, text(1025)), api.ErrBig}, {truncate("/b", 1025), api.ErrBig}, {mkdir("x"), api.ErrPath}, {mkdir(""), api.ErrPath}, {mkdir("/" + text(17)), api.ErrName}, {mkdir("/" + text(300)), api.ErrLong}, {mkdir("/1/2/3/4/5/6/7/8/9"), api.ErrDeep},
		{rename("/b", "c"), api.ErrPath}, {mkdir("/a"), api.ErrThere}, {mkdir("/x/y"), api.ErrNone}, {rmdir("/"), api.ErrRoot}, {rmdir("/a"), api.ErrNotEmpty}, {rename("/a", "/a/x"), api.ErrWithin}, {write("/b", 1, ""), api.ErrRange}, {unlink("/a"), api.ErrIsDir}, {list("/b"), api.ErrNotDir},
		{write("/b", 0, text(100)), api.ErrFull},
		{forget(0), api.ErrArg}, {forget(9), api.ErrArg}, {forget(-1), api.ErrArg}, {forget(1 << 40), api.ErrArg}, {api.Op{Kind: api.OpForget, At: 1, Path: "/"}, api.ErrArg}, {api.Op{Kind: api.OpForget, At: 1, Size: 1}, api.ErrArg}, {api.Op{Kind: api.OpForget, At: 1, Data: "x"}, api.ErrArg},
		{api.Op{Kind: api.OpForget, At: 1, To: "x"}, api.ErrArg},
	} {
		m := fresh(t, 9, 99, 999, low)
		applies(t, m, entry(1, 1, create("/one")), done)
		applies(t, m, entry(2, 1, r.o), code(r.want))
		is(t, "refused "+show(r.o), m, 2, branchBytes(9, 99, fileNode("/one", "")), tableBytes(999, kept(1, 1, 1, packed(done)), kept(2, 1, 2, packed(code(r.want)))))
		adds(t, m, entry(2, 1, r.o), code(r.want))
		adds(t, m, entry(2, 1, mkdir("/new")), code(r.want))
	}
}

// forget: of a client whose reply is kept, of one whose reply isn't, of one without a seat, of the one that asks.
func TestApplyForget(t *testing.T) {
	m := used(t)
	branch := branchBytes(9, 99, fileNode("/b", "two"), dirNode("/one"))
	last := kept(8, api.Greatest, 3, packed(api.Result{Data: "wo", Size: 3}))
	applies(t, m, entry(4, 1, forget(1)), sized(1)) // kept
	is(t, "forget a kept one", m, 5, branch, tableBytes(999, gone(1, 5, 1), gone(2, 5, 2), kept(3, 1, 4, packed(sized(1))), kept(4, 1, 5, packed(sized(1))), last))
	applies(t, m, entry(4, 2, forget(1)), done) // not any more
	applies(t, m, entry(4, 3, forget(2)), done)
	applies(t, m, entry(4, 4, forget(7)), done) // no seat
	is(t, "forget what isn't kept", m, 8, branch, tableBytes(999, gone(1, 5, 1), gone(2, 5, 2), kept(3, 1, 4, packed(sized(1))), kept(4, 4, 8, packed(done)), last))
	applies(t, m, entry(4, 5, forget(4)), sized(1)) // its own: the reply ahead of this one was kept
	applies(t, m, entry(1, 6, forget(1)), done)
	applies(t, m, entry(5, 1, forget(5)), done)
	is(t, "forget one's own", m, 11, branch, tableBytes(999, kept(1, 6, 10, packed(done)), gone(2, 5, 2), kept(3, 1, 4, packed(sized(1))), kept(4, 5, 9, packed(sized(1))), kept(5, 1, 11, packed(done)), last))
	applies(t, m, entry(4, 6, forget(8)), sized(1))
	known(t, m, 8, api.Greatest, session.Forgot, done)
	adds(t, m, entry(8, api.Greatest, read("/b", 1, 9)), code(api.ErrForgot))
}

// forget, once more with the same number, is kept: a reply that came since stays.
func TestApplyForgetTwice(t *testing.T) {
	m := used(t)
	applies(t, m, entry(4, 1, forget(1)), sized(1))
	applies(t, m, entry(1, 6, stat("/b")), sized(3))
	adds(t, m, entry(4, 1, forget(1)), sized(1))
	known(t, m, 1, 6, session.Kept, sized(3))
	adds(t, m, entry(4, 1, forget(3)), sized(1))
	known(t, m, 3, 1, session.Kept, sized(1))
}

// A reply for which there is no room isn't kept: the request was done all the same, and comes as forgotten again.
func TestApplyNoRoom(t *testing.T) {
	m := fresh(t, 9, 99, 0)
	applies(t, m, entry(1, 1, mkdir("/a")), done)
	is(t, "room 0", m, 1, branchBytes(9, 99, dirNode("/a")), tableBytes(0, gone(1, 1, 1)))
	adds(t, m, entry(1, 1, mkdir("/a")), code(api.ErrForgot))
	applies(t, m, entry(1, 2, rmdir("/a")), done)
	is(t, "room 0", m, 3, branchBytes(9, 99), tableBytes(0, gone(1, 2, 3)))
	applies(t, m, entry(2, 1, forget(1)), done)

	m = fresh(t, 9, 99, 11)
	applies(t, m, entry(7, 1, mkdir("/a")), done)
	applies(t, m, entry(2, 1, create("/a/f")), done)
	seated(t, m, kept(2, 1, 2, packed(done)), kept(7, 1, 1, packed(done)))
	applies(t, m, entry(1, 1, write("/a/f", 0, "hello")), sized(5)) // five bytes more: the oldest goes
	seated(t, m, kept(1, 1, 3, packed(sized(5))), kept(2, 1, 2, packed(done)), gone(7, 1, 1))
	adds(t, m, entry(7, 1, mkdir("/a")), code(api.ErrForgot))
	applies(t, m, entry(3, 1, read("/a/f", 0, 9)), api.Result{Data: "hello", Size: 5}) // ten bytes: all others go
	seated(t, m, gone(1, 1, 3), gone(2, 1, 2), kept(3, 1, 5, packed(api.Result{Data: "hello", Size: 5})), gone(7, 1, 1))
	applies(t, m, entry(4, 1, list("/a")), named("f")) // seven
	seated(t, m, gone(1, 1, 3), gone(2, 1, 2), gone(3, 1, 5), kept(4, 1, 6, packed(named("f"))), gone(7, 1, 1))
	applies(t, m, entry(2, 2, write("/a/f", 5, ", all")), sized(10))
	applies(t, m, entry(2, 3, read("/a/f", 0, 99)), api.Result{Data: "hello, all", Size: 10}) // it itself is too long
	seated(t, m, gone(1, 1, 3), gone(2, 3, 8), gone(3, 1, 5), gone(4, 1, 6), gone(7, 1, 1))
	adds(t, m, entry(2, 3, read("/a/f", 0, 99)), code(api.ErrForgot))
	sees(t, m, dir("/a"), file("/a/f", "hello, all"))
}

// The longest results that a new machine has are kept whole, where there is room.
func TestApplyLongReplies(t *testing.T) {
	m := fresh(t, 128, 8192, 8192)
	applies(t, m, entry(1, 1, create("/f")), done)
	applies(t, m, entry(1, 2, write("/f", 0, text(1024))), sized(1024))
	applies(t, m, entry(1, 3, read("/f", 0, 1024)), api.Result{Data: text(1024), Size: 1024})
	adds(t, m, entry(1, 3, read("/f", 0, 1024)), api.Result{Data: text(1024), Size: 1024})

	var layers [][]api.File
	var all []string
	for i := range api.MaxLayers {
		var l []api.File
		for k := range api.MaxItems {
			name := "name-of-16-b" + strconv.Itoa(1000+100*i+k)
			l, all = append(l, dir("/"+name)), append(all, name+"/")
		}
		layers = append(layers, l)
	}
	m = fresh(t, 128, 8192, 8192, layers...)
	for i := range 128 {
		name := "name-of-16-b" + strconv.Itoa(2000+i)
		applies(t, m, entry(1, int64(i+1), mkdir("/"+name)), done)
		all = append(all, name+"/")
	}
	slices.Sort(all)
	applies(t, m, entry(2, 1, list("/")), named(all...))
	adds(t, m, entry(2, 1, list("/")), named(all...))
	known(t, m, 2, 1, session.Kept, named(all...))
}

// Results that only loaded machines have, which hold more than their quotas: too long for the table, nothing is recorded; with more names than op.Pack takes, no bytes are. Both times the result itself is whole, and nothing else is changed.
func TestApplyTooLong(t *testing.T) {
	for _, count := range []int{api.MaxNames, api.MaxNames + 1, api.MaxInodes} {
		var inodes []api.Inode
		var all []string
		for i := range count {
			name := "name-of-16-b" + strconv.Itoa(1000+i)
			inodes, all = append(inodes, dirNode("/"+name)), append(all, name+"/")
		}
		branch := branchBytes(9, 99, inodes...)
		m := loaded(t, stateBytes(5, branch, tableBytes(99, kept(1, 1, 1, packed(done)))))
		applies(t, m, entry(2, 1, list("/")), named(all...))
		if _, e := op.Pack(named(all...)); e == api.OK {
			is(t, "too long for the table", m, 6, branch, tableBytes(99, kept(1, 1, 1, packed(done))))
			applies(t, m, entry(2, 1, list("/")), named(all...))
		} else {
			is(t, "too many names", m, 6, branch, tableBytes(99, kept(1, 1, 1, packed(done)), kept(2, 1, 6, "")))
			adds(t, m, entry(2, 1, list("/")), done)
		}
		counts(t, m, 7)
	}
}

// At Greatest nothing is done: ErrMany, whatever comes; up to it all is as ever.
func TestApplyGreatest(t *testing.T) {
	branch, table := branchBytes(9, 99, dirNode("/a")), tableBytes(99, kept(1, 5, 1, packed(sized(7))), gone(2, 5, 2))
	m := loaded(t, stateBytes(api.Greatest-1, branch, table))
	applies(t, m, entry(3, 1, create("/f")), done)
	branch, table = branchBytes(9, 99, dirNode("/a"), fileNode("/f", "")), tableBytes(99, kept(1, 5, 1, packed(sized(7))), gone(2, 5, 2), kept(3, 1, api.Greatest, packed(done)))
	is(t, "the last request", m, api.Greatest, branch, table)
	for range 3 {
		for _, o := range []api.Op{mkdir("/x"), unlink("/f"), read("/f", 0, 9), list("/"), forget(1), {Kind: 99}, mkdir("x")} {
			for _, e := range []api.Entry{entry(0, 1, o), entry(9, 1, o), entry(1, 0, o), entry(1, api.Greatest+1, o), entry(1, 4, o), entry(1, 5, o), entry(1, 6, o), entry(2, 5, o), entry(3, 1, o), entry(3, 2, o), entry(8, 1, o)} {
				applies(t, m, e, code(api.ErrMany))
				is(t, "at Greatest", m, api.Greatest, branch, table)
			}
		}
	}
	known(t, m, 1, 5, session.Kept, sized(7))
	known(t, m, 3, 2, session.New, done)
	for _, e := range []api.Entry{entry(9, 1, mkdir("/x")), entry(1, 4, mkdir("/x")), entry(1, 5, mkdir("/x")), entry(2, 5, mkdir("/x"))} {
		m := loaded(t, stateBytes(api.Greatest-1, branch, table))
		m.Apply(e)
		is(t, "what changes nothing counts, too", m, api.Greatest, branch, table)
		applies(t, m, e, code(api.ErrMany))
	}
}
