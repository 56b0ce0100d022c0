package vr_test

import (
	"fmt"
	"slices"
	"strings"
	"testing"

	"veneer/api"
	"veneer/vr"
)

// show: the beginning of a value's text.
func show(v any) string { return fmt.Sprintf("%.900s", fmt.Sprintf("%+v", v)) }

// mustBe: a call must have this answer.
func mustBe[T comparable](t *testing.T, what string, got, want T) {
	t.Helper()
	if got != want {
		t.Errorf("%s: %v; want %v", what, got, want)
	}
}

// own: the same core with lists of its own, without room behind them.
func own(c api.Core) api.Core {
	c.Entries = slices.Clip(slices.Clone(c.Entries))
	c.Acks = slices.Clip(slices.Clone(c.Acks))
	c.Starts = slices.Clip(slices.Clone(c.Starts))
	c.Votes = slices.Clip(slices.Clone(c.Votes))
	return c
}

// same: whether two cores are one; a list that is nil is as one without elements.
func same(a, b api.Core) bool {
	views := a.Id == b.Id && a.Nodes == b.Nodes && a.View == b.View && a.Normal == b.Normal && a.Status == b.Status
	logs := a.Base == b.Base && a.Root == b.Root && slices.Equal(a.Entries, b.Entries) && a.Commit == b.Commit
	lists := slices.Equal(a.Acks, b.Acks) && slices.Equal(a.Starts, b.Starts) && slices.Equal(a.Votes, b.Votes)
	return views && logs && lists && a.Left == b.Left && a.Voted == b.Voted && a.Best == b.Best
}

// alike: whether two messages are one.
func alike(a, b api.Msg) bool {
	heads := a.Kind == b.Kind && a.From == b.From && a.To == b.To
	numbers := a.View == b.View && a.Normal == b.Normal && a.Last == b.Last && a.Commit == b.Commit && a.Behind == b.Behind
	results := a.Result.Code == b.Result.Code && a.Result.Dir == b.Result.Dir && a.Result.Size == b.Result.Size && a.Result.Data == b.Result.Data && slices.Equal(a.Result.Names, b.Result.Names)
	return heads && numbers && a.Root == b.Root && slices.Equal(a.Entries, b.Entries) && a.Data == b.Data && results
}

// reached is what a step came to.
type reached struct {
	core api.Core
	out  []api.Msg
	note api.Note
}

// comesTo: a step must come to this.
func comesTo(t *testing.T, what string, got, want reached) {
	t.Helper()
	if !same(got.core, want.core) {
		t.Errorf("%s: the core:\n%s; want\n%s", what, show(got.core), show(want.core))
	}
	if !slices.EqualFunc(got.out, want.out, alike) {
		t.Errorf("%s: the messages:\n%s; want\n%s", what, show(got.out), show(want.out))
	}
	mustBe(t, what+": the note", got.note, want.note)
}

// ticks: a tick must come to this.
func ticks(t *testing.T, what string, c api.Core, want reached) {
	t.Helper()
	var got reached
	got.core, got.out, got.note = vr.Tick(own(c))
	comesTo(t, "P20.2: Tick: "+what, got, want)
}

// handles: a message must come to this.
func handles(t *testing.T, what string, c api.Core, m api.Msg, want reached) {
	t.Helper()
	var got reached
	got.core, got.out, got.note = vr.Handle(own(c), m)
	comesTo(t, "P20.2: Handle: "+what, got, want)
}

// stays: a message must do nothing.
func stays(t *testing.T, what string, c api.Core, m api.Msg) {
	t.Helper()
	handles(t, what, c, m, reached{core: c})
}

// but: a core with something else about it.
func but(c api.Core, edits ...func(c *api.Core)) api.Core {
	c = own(c)
	for _, edit := range edits {
		edit(&c)
	}
	return c
}

// other: a message with something else about it.
func other(m api.Msg, edits ...func(m *api.Msg)) api.Msg {
	m.Entries = slices.Clone(m.Entries)
	for _, edit := range edits {
		edit(&m)
	}
	return m
}

// entry: one that is like no other one.
func entry(n int64) api.Entry {
	return api.Entry{Client: 1, Number: n, Op: api.Op{Kind: api.OpWrite, Path: "/a", At: int(n % 1000), Data: "x"}}
}

// entries: those of the numbers from one to another.
func entries(from, to int64) []api.Entry {
	var list []api.Entry
	for n := from; n <= to; n++ {
		list = append(list, entry(n))
	}
	return list
}

// tooLong: an entry that can't be written.
func tooLong() api.Entry {
	return api.Entry{Client: 1, Number: 1, Op: api.Op{Kind: api.OpWrite, Path: "/a", Data: strings.Repeat("x", api.MaxField+1)}}
}

// The cores that tests start from: of three, in the view 4, whose primary is 1, with the entries 3 to 6, of which 4 is committed.
func backup() api.Core {
	return api.Core{Id: 2, Nodes: 3, View: 4, Normal: 4, Base: 2, Root: api.Digest{7}, Entries: entries(3, 6), Commit: 4, Left: 5, Best: -1}
}

func primary() api.Core {
	return but(backup(), func(c *api.Core) { c.Id, c.Acks = 1, []int64{5, 6, 3} })
}

func lagging() api.Core {
	return but(backup(), func(c *api.Core) { c.Status, c.Normal = api.StatusLag, 2 })
}

func changing() api.Core {
	return but(lagging(), func(c *api.Core) { c.Status, c.Starts = api.StatusChange, []bool{false, false, true} })
}

func electing() api.Core {
	return but(changing(), func(c *api.Core) { c.Id, c.Starts = 1, []bool{false, true, false} })
}

// chosen: one who is to lead, and asked the replica 0 for its log.
func chosen() api.Core {
	return but(electing(), func(c *api.Core) {
		c.Starts, c.Voted, c.Best = []bool{true, true, false}, true, 0
		c.Votes = []api.Vote{vote(1, 2, 6), vote(0, 3, 8)}
	})
}

func vote(replica int, normal, last int64) api.Vote {
	return api.Vote{Replica: replica, Normal: normal, Last: last}
}

// named: the cores by what they are.
func named() map[string]api.Core {
	return map[string]api.Core{"backup": backup(), "primary": primary(), "lagging": lagging(), "changing": changing(), "electing": electing(), "chosen": chosen()}
}

// eachNamed: goes over them, always in the same order.
func eachNamed(do func(name string, c api.Core)) {
	all := named()
	for _, name := range []string{"backup", "primary", "lagging", "changing", "electing", "chosen"} {
		do(name, all[name])
	}
}

// all: a message to each other replica, by rising numbers.
func all(c api.Core, m api.Msg) []api.Msg {
	var list []api.Msg
	for to := range c.Nodes {
		if to != c.Id {
			m.To = to
			list = append(list, m)
		}
	}
	return list
}
