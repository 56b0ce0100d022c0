package vr_test

import (
	"math"
	"strings"
	"testing"

	"veneer/api"
	"veneer/vr"
)

// begins: Restart must answer this core.
func begins(t *testing.T, what string, id, nodes int, k api.Kept, want api.Core) {
	t.Helper()
	c, e := vr.Restart(id, nodes, k, want.Root)
	mustBe(t, "P20.1: Restart: "+what, e, api.OK)
	if !same(c, want) {
		t.Errorf("P20.1: Restart: %s:\n%s; want\n%s", what, show(c), show(want))
	}
	mustBe(t, "P20.1: Check behind Restart: "+what, vr.Check(c), true)
}

// refuses: Restart must answer ErrArg, and nothing else.
func refuses(t *testing.T, what string, id, nodes int, k api.Kept) {
	t.Helper()
	c, e := vr.Restart(id, nodes, k, api.Digest{1})
	mustBe(t, "P20.1: Restart: "+what, e, api.ErrArg)
	if !same(c, api.Core{}) {
		t.Errorf("P20.1: Restart: %s: %s; want the zero core", what, show(c))
	}
}

// P20.1: New of each Nodes and id that may be.
func TestNew(t *testing.T) {
	for _, nodes := range []int{3, 5, 7} {
		for id := range nodes {
			want := api.Core{Id: id, Nodes: nodes, Left: 8 + 2*id, Best: -1}
			if id == 0 {
				want.Left, want.Acks = 2, make([]int64, nodes)
			}
			c, e := vr.New(id, nodes)
			mustBe(t, "P20.1: New", e, api.OK)
			if !same(c, want) {
				t.Errorf("P20.1: New(%d, %d): %s; want %s", id, nodes, show(c), show(want))
			}
			mustBe(t, "P20.1: Check of New", vr.Check(c), true)
			mustBe(t, "P20.1: Leads of New", vr.Leads(c), id == 0)
			mustBe(t, "P20.1: Last of New", vr.Last(c), 0)
			begins(t, "nothing kept", id, nodes, api.Kept{}, want)
		}
	}
}

// P20.1: New and Restart of each other Nodes or id.
func TestNewOfNone(t *testing.T) {
	numbers := []int{math.MinInt, -7, -3, -1, 0, 1, 2, 3, 4, 5, 6, 7, 8, 9, 11, math.MaxInt}
	for _, nodes := range numbers {
		for _, id := range numbers {
			if wordMember(id, nodes) {
				continue
			}
			c, e := vr.New(id, nodes)
			mustBe(t, "P20.1: New of what may not be", e, api.ErrArg)
			if !same(c, api.Core{}) {
				t.Errorf("P20.1: New(%d, %d): %s; want the zero core", id, nodes, show(c))
			}
			refuses(t, "what may not be", id, nodes, api.Kept{})
		}
	}
}

// P20.1: the view that was kept is normal, or there is a later one.
func TestRestart(t *testing.T) {
	kept := func(view, normal int64) api.Kept {
		return api.Kept{View: view, Normal: normal, Base: 2, State: "abc", Entries: entries(3, 6)}
	}
	begins(t, "a primary", 1, 3, kept(4, 4), but(primary(), func(c *api.Core) { c.Commit, c.Acks, c.Left = 2, []int64{0, 6, 0}, 2 }))
	begins(t, "a backup", 2, 3, kept(4, 4), but(backup(), func(c *api.Core) { c.Commit, c.Left = 2, 12 }))
	begins(t, "another backup", 0, 3, kept(4, 4), but(backup(), func(c *api.Core) { c.Id, c.Commit, c.Left = 0, 2, 8 }))
	begins(t, "a change", 2, 3, kept(4, 2), but(changing(), func(c *api.Core) { c.Commit, c.Left = 2, 12 }))
	begins(t, "a change of who is to lead", 1, 3, kept(4, 2), but(electing(), func(c *api.Core) { c.Commit, c.Left = 2, 10 }))
	begins(t, "a change by one", 1, 3, kept(4, 3), but(electing(), func(c *api.Core) { c.Normal, c.Commit, c.Left = 3, 2, 10 }))
	for id, left := range []int{8, 2, 12, 14, 16, 18, 20} { // view 1 of seven
		want := api.Core{Id: id, Nodes: 7, View: 1, Normal: 1, Left: left, Best: -1, Entries: entries(1, 2)}
		if id == 1 {
			want.Acks = []int64{0, 2, 0, 0, 0, 0, 0}
		}
		begins(t, "one of seven", id, 7, api.Kept{View: 1, Normal: 1, Entries: entries(1, 2)}, want)
	}
}

// P20.1: what may be kept just so, and what not.
func TestRestartBounds(t *testing.T) {
	long := entries(1, 1)
	long[0].Op.Data = strings.Repeat("x", api.MaxField)
	for _, c := range []struct {
		what string
		kept api.Kept
		may  bool
	}{
		{"View at Greatest", api.Kept{View: api.Greatest}, true},
		{"View past Greatest", api.Kept{View: api.Greatest + 1}, false},
		{"View -1", api.Kept{View: -1}, false},
		{"View and Normal -1", api.Kept{View: -1, Normal: -1}, false},
		{"Normal -1", api.Kept{Normal: -1}, false},
		{"Normal above View", api.Kept{View: 3, Normal: 4}, false},
		{"Base -1", api.Kept{Base: -1}, false},
		{"Base at Greatest", api.Kept{Base: api.Greatest}, true},
		{"Base past Greatest", api.Kept{Base: api.Greatest + 1}, false},
		{"the last number at Greatest", api.Kept{Base: api.Greatest - 2, Entries: entries(1, 2)}, true},
		{"the last number past Greatest", api.Kept{Base: api.Greatest - 1, Entries: entries(1, 2)}, false},
		{"32 entries", api.Kept{Entries: entries(1, 32)}, true},
		{"33 entries", api.Kept{Entries: entries(1, 33)}, false},
		{"a state with no Base", api.Kept{State: "x"}, false},
		{"a state with a Base", api.Kept{Base: 1, State: strings.Repeat("x", api.MaxState)}, true},
		{"a state too long", api.Kept{Base: 1, State: strings.Repeat("x", api.MaxState+1)}, false},
		{"a long entry", api.Kept{Entries: long}, true},
		{"an entry too long", api.Kept{Entries: append(entries(1, 3), tooLong())}, false},
	} {
		for id := range 3 {
			if !c.may {
				refuses(t, c.what, id, 3, c.kept)
				continue
			}
			want, _ := wordRestart(id, 3, c.kept, api.Digest{5})
			begins(t, c.what, id, 3, c.kept, want)
		}
	}
}

// P20.1: drawn ones are what the chapter's words say.
func TestRestartDrawn(t *testing.T) {
	d := draw(2)
	good := 0
	for range 20000 {
		k := api.Kept{View: d.upTo(9), Normal: d.upTo(9), Base: of(d, 0, d.upTo(9), d.upTo(9)), Entries: d.entries(of(d, 0, d.Intn(5), 31+d.Intn(3)))}
		if d.Intn(2) == 0 {
			k.Normal = k.View
		}
		k.State = of(d, "", "", "abc")
		id, nodes := d.Intn(9)-1, of(d, 3, 5, 7, 7, 4)
		want, e := wordRestart(id, nodes, k, api.Digest{9})
		if e != api.OK {
			refuses(t, "a drawn one", id, nodes, k)
			continue
		}
		good++
		begins(t, "a drawn one", id, nodes, k, want)
	}
	if good < 4000 {
		t.Errorf("%d of 20000 are taken", good)
	}
}
