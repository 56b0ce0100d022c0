package machine_test

import (
	"slices"
	"strconv"
	"strings"
	"testing"

	"veneer/api"
	"veneer/machine"
	"veneer/session"
)

// means: Load of these parts must be the machine whose bytes they are.
func means(t *testing.T, what string, at uint64, branch, table string, lowers ...[]api.File) *machine.Machine {
	t.Helper()
	m := loaded(t, stateBytes(at, branch, table), lowers...)
	is(t, what, m, at, branch, table)
	return m
}

// nothing: Load of these bytes must answer ErrForm, and nil, over layers and over none.
func nothing(t *testing.T, what, state string) {
	t.Helper()
	s, roots := stored(t, low)
	for _, lowers := range [][]api.Digest{nil, roots} {
		if m, e := machine.Load(s, lowers, []byte(state)); m != nil || e != api.ErrForm {
			t.Errorf("P15.1: %s: Load(%.80x): %v, %d; want nil, ErrForm", what, state, m != nil, e)
		}
	}
}

// someSeats: seats of all shapes, with 13 bytes of replies.
func someSeats() []api.Seat {
	return []api.Seat{kept(1, 7, 3, packed(sized(2))), gone(2, api.Greatest, 1), kept(8, 1, 300, packed(api.Result{Code: api.ErrNone, Data: "abc"}))}
}

// someInodes: inodes of all kinds.
func someInodes() []api.Inode {
	return []api.Inode{dirNode("/a"), fileNode("/a/f", "up"), opaque("/a/o"), white("/b"), fileNode("/c", "")}
}

// P15.1, P15.3: bytes, one by one.
func TestLoadExamples(t *testing.T) {
	for _, r := range []struct {
		state string
		at    int64
	}{
		{"\x00\x03\x00\x00\x00\x02\x00\x00", 0},
		{"\x05\x03\x09\x63\x00\x02\x63\x00", 5},
		{"\xac\x02\x03\x09\x63\x00\x02\x63\x00", 300},
		{"\x80\x80\x80\x80\x80\x20\x03\x00\x00\x00\x02\x00\x00", api.Greatest},
	} {
		if m := loaded(t, r.state); m.At() != r.at || string(m.State()) != r.state {
			t.Errorf("P15.1: Load(%x): %d, %x", r.state, m.At(), m.State())
		}
	}
	m := loaded(t, "\x01\x09\x09\x63\x01\x02/a\x02\x00\x00\x0c\x63\x01\x01\x01\x02\x01\x05\x00\x00\x00\x00\x00")
	is(t, "mkdir /a", m, 1, branchBytes(9, 99, dirNode("/a")), tableBytes(99, kept(1, 1, 1, packed(done))))
	sees(t, m, dir("/a"))
	n := fresh(t, 9, 99, 99)
	applies(t, n, entry(1, 1, mkdir("/a")), done)
	if string(n.State()) != string(m.State()) || n.Print() != m.Print() {
		t.Errorf("P15.3: State: %x; want %x", n.State(), m.State())
	}
}

// P15.1: counts from 0 to Greatest, quotas and rooms at their bounds; what is loaded is told.
func TestLoad(t *testing.T) {
	for _, at := range []uint64{0, 1, 127, 128, 1 << 35, api.Greatest - 1, api.Greatest} {
		for _, quotas := range [][2]uint64{{0, 0}, {5, 2}, {128, 8192}} {
			for _, room := range []uint64{13, 14, 8192} {
				m := means(t, "bounds", at, branchBytes(quotas[0], quotas[1], someInodes()...), tableBytes(room, someSeats()...), low)
				seated(t, m, someSeats()...)
				sees(t, m, dir("/a"), file("/a/f", "up"), dir("/a/o"), file("/c", ""))
			}
		}
	}
	m := means(t, "over other layers", 3, branchBytes(9, 99, someInodes()...), tableBytes(99), []api.File{dir("/a"), file("/a/g", "g")}, []api.File{file("/d", "d")})
	sees(t, m, dir("/a"), file("/a/f", "up"), file("/a/g", "g"), dir("/a/o"), file("/c", ""), file("/d", "d"))
}

// P15.1: a count above Greatest.
func TestLoadCount(t *testing.T) {
	for _, at := range []uint64{api.Greatest + 1, api.Greatest + 2, 2 * api.Greatest, 1 << 62, 1<<63 - 1, 1 << 63, 1<<63 + 1, 1<<64 - 1} {
		nothing(t, "a count", stateBytes(at, branchBytes(9, 99), tableBytes(99)))
		nothing(t, "a count", stateBytes(at, branchBytes(9, 99, someInodes()...), tableBytes(99, someSeats()...)))
	}
}

// P15.1: bytes that are cut off anywhere, or have more behind them.
func TestLoadOtherLengths(t *testing.T) {
	nothing(t, "no bytes", "")
	for _, table := range []string{tableBytes(0), tableBytes(99, someSeats()...)} {
		for _, branch := range []string{branchBytes(0, 0), branchBytes(9, 99, someInodes()...)} {
			for _, at := range []uint64{0, 300, api.Greatest} {
				state := stateBytes(at, branch, table)
				for cut := range state {
					nothing(t, "cut off", state[:cut])
				}
				for _, more := range []string{"\x00", "\x01", "\x80", "\xff", "\x00\x00", state} {
					nothing(t, "with more behind", state+more)
				}
				nothing(t, "without the count", state[len(num(at)):])
			}
		}
	}
}

// P15.1: numbers that aren't in their shortest form, or have more than 64 bits: the count, and both lengths.
func TestLoadOtherNumbers(t *testing.T) {
	branch, table := branchBytes(9, 99, dirNode("/a")), tableBytes(99, kept(1, 1, 1, packed(done)))
	right := []string{num(7), num(uint64(len(branch))), branch, num(uint64(len(table))), table}
	loaded(t, strings.Join(right, ""))
	for _, at := range []int{0, 1, 3} {
		for _, tail := range []string{"\x00", "\x80\x00", "\x80\x80\x80\x80\x80\x80\x80\x80\x00", "\x80\x80\x80\x80\x80\x80\x80\x80\x02", "\x80\x80\x80\x80\x80\x80\x80\x80\x80\x00"} {
			f := slices.Clone(right)
			f[at] = string([]byte{f[at][0] | 0x80}) + tail
			nothing(t, "a number in another form", strings.Join(f, ""))
		}
	}
	for _, at := range []int{1, 3} {
		own := uint64(len(right[at+1]))
		for _, length := range []uint64{0, 1, own - 1, own + 1, own + 2, 127, 1 << 20, 1 << 31, 1 << 32, 1<<32 + own, 1 << 63, 1<<63 + own, 1<<64 - 1} {
			f := slices.Clone(right)
			f[at] = num(length)
			nothing(t, "another length", strings.Join(f, ""))
		}
	}
}

// P15.1: parts that upper.Decode, session.Decode don't take.
func TestLoadParts(t *testing.T) {
	branch, table := branchBytes(9, 99, someInodes()...), tableBytes(99, someSeats()...)
	for _, wrong := range []string{
		"", "\x09", branch[:len(branch)-1], branch + "\x00", "\x80\x00" + branch[1:], branchBytes(129, 0), branchBytes(0, 8193), branchBytes(9, 99, white("/b"), dirNode("/a")), branchBytes(9, 99, dirNode("/a"), dirNode("/a")),
		branchBytes(9, 99, fileNode("/a/f", "")), branchBytes(9, 99, dirNode("/a/")), branchBytes(9, 99, api.Inode{Path: "/a", Kind: 4}), branchBytes(9, 99, api.Inode{Path: "/a", Kind: 3, Data: "x"}), branchBytes(9, 99, fileNode("/a", text(1025))), table,
	} {
		nothing(t, "no upper branch", stateBytes(1, wrong, table))
		nothing(t, "no upper branch", stateBytes(0, wrong, tableBytes(0)))
	}
	for _, wrong := range []string{
		"", "\x63", table[:len(table)-1], table + "\x00", "\xe3\x00" + table[1:], tableBytes(8193), tableBytes(99, gone(9, 1, 1)), tableBytes(99, gone(1, 0, 1)), tableBytes(99, gone(1, api.Greatest+1, 1)), tableBytes(99, gone(2, 1, 1), gone(1, 1, 1)),
		tableBytes(99, gone(1, 1, 1), gone(1, 1, 1)), tableBytes(3, kept(1, 1, 1, "abcd")), tableBytes(99, api.Seat{Client: 1, Number: 1, Reply: "x"}), branch,
	} {
		nothing(t, "no table", stateBytes(1, branch, wrong))
		nothing(t, "no table", stateBytes(0, branchBytes(0, 0), wrong))
		nothing(t, "neither", stateBytes(1, "\x00", wrong))
	}
	nothing(t, "the two the other way round", stateBytes(1, table, branch))
}

// P15.1: what upper.Decode and session.Decode take is taken, though no requests would have left it: more than the quotas allow, times behind the count, replies that are no result's bytes.
func TestLoadStrange(t *testing.T) {
	m := means(t, "more than the quotas allow", 1, branchBytes(0, 0, someInodes()...), tableBytes(0))
	sees(t, m, dir("/a"), file("/a/f", "up"), dir("/a/o"), file("/c", ""))
	applies(t, m, entry(1, 1, create("/new")), code(api.ErrFull))
	m = means(t, "a time behind the count", 1, branchBytes(9, 9), tableBytes(9, kept(1, 9, 1<<62, packed(done)), kept(2, 9, -5, "")))
	known(t, m, 1, 9, session.Kept, done)
	for _, reply := range []string{"", "\x00", "no result", packed(done) + "\x00", packed(code(api.ErrNone))[:4], "\x80\x00" + packed(done)[1:]} {
		m := means(t, "a reply that is no result's bytes", 4, branchBytes(9, 9), tableBytes(99, kept(1, 9, 1, reply)))
		known(t, m, 1, 9, session.Kept, done)
		adds(t, m, entry(1, 9, mkdir("/a")), done)
	}
}

// many: so many inodes of files, in order, each with so many bytes.
func many(count, size int) []api.Inode {
	var out []api.Inode
	for i := range count {
		out = append(out, fileNode("/"+strconv.Itoa(100000+i), text(size)))
	}
	return out
}

// P15.1: the longest state that may be: as many inodes as an upper branch can have, each as long as may be, and as many bytes of replies.
func TestLoadLong(t *testing.T) {
	table := tableBytes(8192, kept(8, 1, 1, text(8192)))
	m := means(t, "long", 1, branchBytes(128, 8192, many(1024, 1024)...), table)
	if l := m.List(); len(l) != 1024 {
		t.Errorf("P15.1: %d paths", len(l))
	}
	nothing(t, "one inode more", stateBytes(1, branchBytes(128, 8192, many(1025, 0)...), table))
	nothing(t, "one byte more", stateBytes(1, branchBytes(128, 8192, many(1, 1025)...), table))
}

// P15.1: union.New's error comes ahead of ErrForm; else ErrForm; else the machine.
func TestLoadLayers(t *testing.T) {
	right := stateBytes(7, branchBytes(9, 99, someInodes()...), tableBytes(99, someSeats()...))
	for _, l := range allLayers(t) {
		for _, state := range []string{right, "", right[1:], right[:len(right)-1], right + "\x00", stateBytes(api.Greatest+1, branchBytes(9, 99), tableBytes(99)), stateBytes(1, "", tableBytes(99)), stateBytes(1, branchBytes(9, 99), "")} {
			want := l.want
			if want == api.OK && state != right {
				want = api.ErrForm
			}
			m, e := machine.Load(l.store, l.roots, []byte(state))
			if e != want || (m != nil) != (want == api.OK) {
				t.Errorf("P15.1: Load of %s, %.40x: %v, %d; want %d", l.what, state, m != nil, e, want)
			}
			if want == api.OK && string(m.State()) != right {
				t.Errorf("P15.1: Load of %s: %.80x", l.what, m.State())
			}
		}
	}
}

// P15.1: of bytes of which one was changed: what Load takes are the bytes of the machine that it answers.
func TestLoadChanged(t *testing.T) {
	s, roots := stored(t, low)
	taken := 0
	for _, state := range []string{stateBytes(0, branchBytes(0, 0), tableBytes(0)), stateBytes(300, branchBytes(9, 99, someInodes()...), tableBytes(99, someSeats()...))} {
		for at := range state {
			for v := range 256 {
				other := []byte(state)
				other[at] = byte(v)
				m, e := machine.Load(s, roots, other)
				switch {
				case e == api.OK && m != nil && string(m.State()) == string(other):
					taken++
				case e != api.ErrForm || m != nil:
					t.Errorf("P15.1: Load(%x): %d", other, e)
				}
			}
		}
	}
	if taken < 1000 {
		t.Errorf("P15.1: only %d were taken", taken)
	}
}
