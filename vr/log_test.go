package vr_test

import (
	"testing"

	"veneer/api"
	"veneer/vr"
)

// P20.2: Ask: the entries behind a number, or, where they are gone, the sealed state.
func TestAsk(t *testing.T) {
	for _, c := range []api.Core{backup(), primary(), changing()} {
		for behind := range int64(10) {
			for from := range 3 {
				if from == c.Id || c.Status == api.StatusChange && from != 1 {
					continue
				}
				m := api.Msg{Kind: api.Ask, From: from, To: c.Id, View: 4, Behind: behind}
				want := reached{core: c}
				switch {
				case behind < 2:
					want.out = []api.Msg{{Kind: api.Offer, From: c.Id, To: from, View: 4, Last: 2, Root: api.Digest{7}}}
				case behind <= 6:
					want.out = []api.Msg{{Kind: api.Tell, From: c.Id, To: from, View: 4, Behind: behind, Commit: 4, Entries: entries(behind+1, 6)}}
				}
				handles(t, "Ask", c, m, want)
			}
		}
	}
}

// P20.2: Ask where nothing is sealed, or no entries are left.
func TestAskEdges(t *testing.T) {
	ask := func(behind int64) api.Msg { return api.Msg{Kind: api.Ask, From: 0, To: 2, View: 4, Behind: behind} }
	c := but(backup(), func(c *api.Core) { c.Base, c.Commit, c.Entries = 0, 0, entries(1, 32) })
	handles(t, "Ask for all", c, ask(0), reached{core: c, out: []api.Msg{{Kind: api.Tell, From: 2, To: 0, View: 4, Entries: entries(1, 32)}}})
	c = but(backup(), func(c *api.Core) { c.Base, c.Commit, c.Entries = 4, 4, nil })
	handles(t, "Ask for none", c, ask(4), reached{core: c, out: []api.Msg{{Kind: api.Tell, From: 2, To: 0, View: 4, Behind: 4, Commit: 4}}})
	handles(t, "Ask for what is gone", c, ask(3), reached{core: c, out: []api.Msg{{Kind: api.Offer, From: 2, To: 0, View: 4, Last: 4, Root: api.Digest{7}}}})
	stays(t, "Ask for what isn't", c, ask(5))
	stays(t, "Ask for what isn't by far", c, ask(api.Greatest))
}

// P20.2: Ask of another view, of one who lags, and, in a change, of another one than who is to lead, is nothing.
func TestAskOfNobody(t *testing.T) {
	for behind := range int64(8) {
		eachNamed(func(name string, c api.Core) {
			for from := range 3 {
				for view := int64(3); view < 9; view++ {
					if view == 4 && from != c.Id && (c.Status == api.StatusNormal || name == "changing" && from == 1) {
						continue
					}
					stays(t, name+", Ask", c, api.Msg{Kind: api.Ask, From: from, To: c.Id, View: view, Behind: behind})
				}
			}
		})
	}
}

// tell: a Tell of the entries behind a number up to another one.
func tell(from, to int, behind, last int64) api.Msg {
	return api.Msg{Kind: api.Tell, From: from, To: to, View: 4, Behind: behind, Commit: 5, Entries: told(behind+1, last)}
}

// told: entries that are like none of another one's log.
func told(from, to int64) []api.Entry {
	list := entries(from, to)
	for i := range list {
		list[i].Client = 2
	}
	return list
}

// P20.2: Tell to one that lags: the entries behind Commit are the told ones, fewer or more; the view is normal.
func TestTellToOneWhoLags(t *testing.T) {
	for behind := int64(0); behind < 8; behind++ {
		for last := behind; last < 12; last++ {
			m := tell(1, 2, behind, last)
			if behind < 2 || behind > 4 || last < 4 {
				stays(t, "Tell past a bound", lagging(), m)
				continue
			}
			want := reached{core: but(backup(), func(c *api.Core) {
				c.Entries = append(entries(3, 4), told(5, last)...)
				c.Commit, c.Left = min(5, last), 12
			}), out: oks(last), note: api.Note{Kind: api.NoteAdopt, Behind: 4}}
			handles(t, "Tell to one who lags", lagging(), m, want)
		}
	}
}

// P20.2: Tell to a backup: likewise, if there are more than it has.
func TestTellToABackup(t *testing.T) {
	for behind := int64(0); behind < 8; behind++ {
		for last := behind; last < 12; last++ {
			m := tell(1, 2, behind, last)
			if behind < 2 || behind > 4 || last < 7 {
				stays(t, "Tell past a bound, or of nothing new", backup(), m)
				continue
			}
			want := reached{core: but(backup(), func(c *api.Core) {
				c.Entries = append(entries(3, 4), told(5, last)...)
				c.Commit, c.Left = 5, 12
			}), out: oks(last), note: api.Note{Kind: api.NoteAdopt, Behind: 4}}
			handles(t, "Tell to a backup", backup(), m, want)
		}
	}
}

// P20.2: Tell to who is to lead, of whom it asked: it leads with the told ones; what is committed it doesn't hear of.
func TestTellToWhoIsToLead(t *testing.T) {
	for behind := int64(0); behind < 8; behind++ {
		for last := behind; last < 12; last++ {
			m := tell(0, 1, behind, last)
			if behind < 2 || behind > 4 || last < 4 {
				stays(t, "Tell past a bound", chosen(), m)
				continue
			}
			led := leading(but(chosen(), func(c *api.Core) { c.Entries = append(entries(3, 4), told(5, last)...) }))
			handles(t, "Tell to who is to lead", chosen(), m, reached{core: led, out: toLead(led), note: api.Note{Kind: api.NoteAdopt, Behind: 4}})
		}
	}
}

// P20.2: what is heard of with a Tell: more than is told, less than is committed.
func TestTellCommit(t *testing.T) {
	for commit := range int64(12) {
		m := other(tell(1, 2, 3, 8), func(m *api.Msg) { m.Commit = commit })
		want := reached{core: but(backup(), func(c *api.Core) {
			c.Entries = append(entries(3, 4), told(5, 8)...)
			c.Commit, c.Left = max(4, min(commit, 8)), 12
		}), out: oks(8), note: api.Note{Kind: api.NoteAdopt, Behind: 4}}
		handles(t, "Tell's Commit", backup(), m, want)
		handles(t, "Tell's Commit, lagging", lagging(), m, want)
	}
}

// P20.2: from whom a Tell is taken: the primary, or who was asked; of the view itself.
func TestTellFromAnother(t *testing.T) {
	eachNamed(func(name string, c api.Core) {
		for from := range 3 {
			for view := int64(3); view < 9; view++ {
				m := other(tell(from, c.Id, 3, 8), func(m *api.Msg) { m.View = view })
				fromPrimary := from == 1 && (name == "backup" || name == "lagging")
				asked := name == "chosen" && from == 0
				if view != 4 || !fromPrimary && !asked {
					stays(t, name+", Tell from another one", c, m)
				}
			}
		}
	})
}

// P20.2: n is at most Base and MaxEntries.
func TestTellFull(t *testing.T) {
	for _, c := range []api.Core{backup(), lagging(), chosen()} {
		from := 1
		if c.Id == 1 {
			from = 0
		}
		for count := int64(30); count <= 33; count++ {
			for behind := int64(2); behind <= 4; behind++ {
				m := tell(from, c.Id, behind, behind+count)
				if count > 32 || behind+count > 34 {
					stays(t, "Tell of too many", c, m)
					continue
				}
				var want reached
				want.core, want.out, want.note = wordHandle(c, m)
				mustBe(t, "the words' own note", want.note, api.Note{Kind: api.NoteAdopt, Behind: 4})
				mustBe(t, "the words' own log", wordLast(want.core), behind+count)
				handles(t, "Tell of many", c, m, want)
			}
		}
	}
}

// P20.2: n is at most Greatest.
func TestTellAtGreatest(t *testing.T) {
	base := int64(api.Greatest) - 4
	for _, c := range []api.Core{backup(), lagging(), chosen()} {
		c.Base, c.Commit, c.Entries = base, base+1, entries(1, 2)
		from := 1
		if c.Id == 1 {
			from, c.Votes = 0, nil
		}
		for count := int64(3); count <= 6; count++ {
			m := api.Msg{Kind: api.Tell, From: from, To: c.Id, View: 4, Behind: base, Entries: told(1, count)}
			if count > 4 {
				stays(t, "Tell past Greatest", c, m)
				continue
			}
			var want reached
			want.core, want.out, want.note = wordHandle(c, m)
			mustBe(t, "the words' own log", wordLast(want.core), base+count)
			handles(t, "Tell close to Greatest", c, m, want)
		}
	}
}

// P20.2: an Ok: what most have is committed.
func TestOk(t *testing.T) {
	ok := func(from int, last int64) api.Msg {
		return api.Msg{Kind: api.Ok, From: from, To: 1, View: 4, Last: last}
	}
	for _, from := range []int{0, 2} {
		for last := range int64(9) {
			c := but(primary(), func(c *api.Core) { c.Acks = []int64{3, 6, 3} })
			if last > 6 {
				stays(t, "an Ok of what isn't", c, ok(from, last))
				continue
			}
			want := but(c, func(c *api.Core) { c.Acks[from] = max(3, last); c.Commit = max(4, last) })
			handles(t, "Ok", c, ok(from, last), reached{core: want})
		}
	}
	c := primary() // one has more than is committed, as it was told
	handles(t, "an Ok of less than is known", c, ok(0, 2), reached{core: but(c, func(c *api.Core) { c.Commit = 5 })})
	handles(t, "an Ok of 0", c, ok(2, 0), reached{core: but(c, func(c *api.Core) { c.Commit = 5 })})
	c = but(c, func(c *api.Core) { c.Acks = []int64{0, 6, 0} })
	handles(t, "an Ok of 0, of none known", c, ok(2, 0), reached{core: c})
}

// P20.2: of five and seven, the number that most have reached.
func TestOkOfMore(t *testing.T) {
	for _, nodes := range []int{5, 7} {
		c := api.Core{Id: 1, Nodes: nodes, View: 1, Normal: 1, Entries: entries(1, 9), Acks: make([]int64, nodes), Best: -1, Left: 1}
		c.Acks[1] = 9
		for place, from := range []int{0, 4, 2, 3, 6, 5}[:nodes-1] {
			if from >= nodes {
				from = nodes - 1
			}
			last := int64(9 - place)
			want := but(c, func(c *api.Core) { c.Acks[from] = last })
			if place+2 >= nodes/2+1 {
				want.Commit = max(c.Commit, int64(9-nodes/2+1))
			}
			handles(t, "Ok of more", c, api.Msg{Kind: api.Ok, From: from, To: 1, View: 1, Last: last}, reached{core: want})
			c = want
		}
	}
}

// P20.2: an Ok of another view, or to one who doesn't lead, is nothing.
func TestOkOfNobody(t *testing.T) {
	eachNamed(func(name string, c api.Core) {
		for from := range 3 {
			for view := int64(3); view < 9; view++ {
				if name == "primary" && view == 4 && from != 1 {
					continue
				}
				for last := range int64(8) {
					stays(t, name+", Ok", c, api.Msg{Kind: api.Ok, From: from, To: c.Id, View: view, Last: last})
				}
			}
		}
	})
}

// P20.2: the chapter's example: a request of a new primary is committed at the first Ok.
func TestOkExample(t *testing.T) {
	c := api.Core{Id: 1, Nodes: 3, View: 1, Normal: 1, Left: 2, Acks: []int64{0, 0, 0}, Best: -1}
	next, out, note, e := vr.Request(c, entry(1))
	mustBe(t, "P20.3: Request", e, api.OK)
	want := reached{core: but(c, func(c *api.Core) { c.Entries, c.Acks = entries(1, 1), []int64{0, 1, 0} }), note: api.Note{Kind: api.NoteEntry}}
	want.out = all(c, api.Msg{Kind: api.Prepare, From: 1, View: 1, Last: 1, Entries: entries(1, 1)})
	comesTo(t, "P20.3: Request", reached{next, out, note}, want)
	ok := api.Msg{Kind: api.Ok, From: 2, To: 1, View: 1, Last: 1}
	handles(t, "the example's Ok", next, ok, reached{core: but(next, func(c *api.Core) { c.Commit, c.Acks = 1, []int64{0, 1, 1} })})
}
