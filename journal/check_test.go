package journal_test

import (
	"math"
	"slices"
	"testing"

	"veneer/api"
	"veneer/journal"
)

// checks: Check must answer whether this may be kept.
func checks(t *testing.T, what string, k api.Kept, may bool) {
	t.Helper()
	want := api.ErrArg
	if may {
		want = api.OK
	}
	if got := journal.Check(k); got != want {
		t.Errorf("P18.1: %s: Check(%s): %d; want %d", what, show(k), got, want)
	}
	if mayBe(k) != may {
		t.Errorf("%s: the chapter's words, once more: %s: %v; want %v", what, show(k), !may, may)
	}
}

// P18.1: what may be kept, and what may not, one by one.
func TestCheckExamples(t *testing.T) {
	checks(t, "nothing", api.Kept{}, true)
	checks(t, "no entries, but a list", api.Kept{Entries: []api.Entry{}}, true)
	checks(t, "a view", api.Kept{View: 1}, true)
	checks(t, "a normal one", api.Kept{View: 1, Normal: 1}, true)
	checks(t, "a normal one above the view", api.Kept{Normal: 1}, false)
	checks(t, "a state", api.Kept{View: 2, Normal: 1, Base: 1, State: "s"}, true)
	checks(t, "a state with Base 0", api.Kept{State: "s"}, false)
	checks(t, "a Base without a state", api.Kept{Base: 7}, true)
	checks(t, "all of it", api.Kept{View: 9, Normal: 8, Base: 24, State: text(999), Entries: entries(25, 4)}, true)
	checks(t, "all as great as may be", greatKept(), true)
}

// greatKept: what has as many bytes as may be kept.
func greatKept() api.Kept {
	o := api.Op{Kind: math.MinInt, Path: text(1100), To: text(1100), Data: text(1100), At: math.MaxInt, Size: math.MinInt}
	e := api.Entry{Client: math.MinInt, Number: math.MaxInt64, Op: o}
	return api.Kept{View: api.Greatest, Normal: api.Greatest, Base: api.Greatest - 32, State: text(api.MaxState), Entries: slices.Repeat([]api.Entry{e}, 32)}
}

// edges: numbers at and beside 0 and Greatest, and far off.
func edges() []int64 {
	return []int64{math.MinInt64, math.MinInt64 + 1, -api.Greatest, -256, -2, -1, 0, 1, 2, 1 << 32, api.Greatest - 1, api.Greatest, api.Greatest + 1, 2 * api.Greatest, 1<<62 + 1, math.MaxInt64 - 1, math.MaxInt64}
}

// P18.1: View and Normal from 0 to Greatest, Normal at most View.
func TestCheckViews(t *testing.T) {
	for i, view := range edges() {
		for n, normal := range edges() {
			for _, k := range []api.Kept{{}, {Base: 8, State: "s", Entries: entries(9, 3)}} {
				k.View, k.Normal = view, normal
				checks(t, "views", k, i >= 6 && i <= 11 && n >= 6 && n <= i)
			}
		}
	}
}

// P18.1: Base at least 0, the last number at most Greatest.
func TestCheckNumbers(t *testing.T) {
	for count := range 33 {
		list := entries(1, count)
		for i, base := range edges() {
			checks(t, "a Base", api.Kept{Base: base, Entries: list}, i >= 6 && i <= 9 || i == 10 && count <= 1 || i == 11 && count == 0)
		}
		most := api.Greatest - int64(count)
		for _, past := range []int64{-2, -1, 0, 1, 2, 31, 32} {
			checks(t, "a last number", api.Kept{View: 1, Base: most + past, State: "s", Entries: list}, past <= 0)
		}
		checks(t, "a Base that leads beyond all numbers", api.Kept{Base: math.MaxInt64 - int64(count), Entries: list}, false)
	}
}

// P18.1: at most MaxState bytes, and none with Base 0.
func TestCheckState(t *testing.T) {
	for _, size := range []int{0, 1, 2, 1024, api.MaxState - 1, api.MaxState, api.MaxState + 1, 2 * api.MaxState, 1 << 20} {
		for _, base := range []int64{0, 1, 8, api.Greatest} {
			checks(t, "a state", api.Kept{Base: base, State: text(size)}, size <= api.MaxState && (base > 0 || size == 0))
		}
	}
	checks(t, "a state of a zero byte", api.Kept{State: "\x00"}, false)
}

// P18.1: at most MaxEntries entries.
func TestCheckCount(t *testing.T) {
	for _, count := range []int{0, 1, 31, 32, 33, 34, 64, 256, 257, 1 << 16, 1<<16 + 1} {
		for _, base := range []int64{0, 1, 1 << 39} {
			checks(t, "entries", api.Kept{Base: base, Entries: make([]api.Entry, count)}, count <= 32)
			checks(t, "entries", api.Kept{Base: base, Entries: entries(base+1, count)}, count <= 32)
		}
	}
}

// odd: operations that op.Check refuses, but that have bytes.
func odd() []api.Op {
	return []api.Op{
		{}, {Kind: 12}, {Kind: -1}, {Kind: math.MinInt, At: math.MaxInt, Size: -1}, {Kind: api.OpMkdir, Path: "no path", To: "/to", Data: "\x00\xff\x80"},
		{Kind: api.OpMkdir, Path: text(1100)}, {Kind: api.OpRename, To: text(1100)}, {Kind: api.OpWrite, Data: text(1100)}, {Path: text(1100), To: text(1100), Data: text(1100)},
	}
}

// long: operations that have no bytes.
func long() []api.Op {
	return []api.Op{
		{Kind: api.OpMkdir, Path: text(1101)}, {Kind: api.OpRename, Path: "/a", To: text(1101)}, {Kind: api.OpWrite, Path: "/a", Data: text(1101)},
		{Path: text(1100), To: text(1100), Data: text(1101)}, {Path: text(1 << 16)}, {Path: text(1101), To: text(1101), Data: text(1101)},
	}
}

// P18.1: op.Encode takes the Op of each entry, at each place; whatever else there is in an entry.
func TestCheckOps(t *testing.T) {
	for _, count := range []int{1, 2, 3, 32} {
		for at := range count {
			for _, o := range odd() {
				list := entries(1, count)
				list[at].Op = o
				checks(t, "an operation", api.Kept{Entries: list}, true)
			}
			for _, o := range long() {
				list := entries(1, count)
				list[at].Op = o
				checks(t, "a long operation", api.Kept{Entries: list}, false)
				checks(t, "a long operation", api.Kept{View: 5, Base: 8, State: "s", Entries: list}, false)
			}
		}
	}
	for _, n := range edges() {
		checks(t, "an entry of no client, of no number", api.Kept{Entries: []api.Entry{{Client: int(n), Number: -n, Op: mkdir("/a")}}}, true)
	}
}

// Rule 3: what is handed to Check isn't changed.
func TestCheckChangesNothing(t *testing.T) {
	list := append(entries(1, 5), api.Entry{Op: long()[0]}, entry(9))
	before := slices.Clone(list)
	for to := range list {
		journal.Check(api.Kept{Entries: list[:to]})
	}
	if !slices.Equal(list, before) {
		t.Errorf("rule 3: %s", show(list))
	}
}
