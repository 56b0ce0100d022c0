package vr_test

import (
	"math"
	"slices"
	"testing"

	"veneer/api"
	"veneer/vr"
)

// judged is an edit of a core, and whether the core is right behind it.
type judged struct {
	what  string
	edit  func(c *api.Core)
	right bool
}

// judge: Check of a core must be so behind each edit, and Last and Leads must go by it.
func judge(t *testing.T, name string, c api.Core, list []judged) {
	t.Helper()
	for _, j := range list {
		edited := but(c, j.edit)
		what := "P20.1: " + name + ", " + j.what
		mustBe(t, what+": Check", vr.Check(edited), j.right)
		last := int64(0)
		if j.right {
			last = edited.Base + int64(len(edited.Entries))
		}
		mustBe(t, what+": Last", vr.Last(edited), last)
		leads := j.right && edited.Status == api.StatusNormal && int64(edited.Id) == edited.View%int64(edited.Nodes)
		mustBe(t, what+": Leads", vr.Leads(edited), leads)
	}
}

// P20.1: the cores as they are; the primary alone leads.
func TestCheckRight(t *testing.T) {
	eachNamed(func(name string, c api.Core) {
		mustBe(t, "P20.1: Check of the "+name, vr.Check(c), true)
		mustBe(t, "P20.1: Last of the "+name, vr.Last(c), 6)
		mustBe(t, "P20.1: Leads of the "+name, vr.Leads(c), name == "primary")
	})
	mustBe(t, "P20.1: Check of the zero core", vr.Check(api.Core{}), false)
}

// P20.1: the fields whose bounds are the same in each status.
func TestCheckBoundsOfAll(t *testing.T) {
	list := []judged{
		{"Left 0", func(c *api.Core) { c.Left = 0 }, true},
		{"Left 1000", func(c *api.Core) { c.Left = 1000 }, true},
		{"Left -1", func(c *api.Core) { c.Left = -1 }, false},
		{"Left 1001", func(c *api.Core) { c.Left = 1001 }, false},
		{"Commit at Base", func(c *api.Core) { c.Commit = 2 }, true},
		{"Commit below Base", func(c *api.Core) { c.Commit = 1 }, false},
		{"Commit at the last number", func(c *api.Core) { c.Commit = 6 }, true},
		{"Commit past the last number", func(c *api.Core) { c.Commit = 7 }, false},
		{"Commit -1, Base -1", func(c *api.Core) { c.Base, c.Commit = -1, -1; c.Entries = entries(0, 6) }, false},
		{"Base 0", func(c *api.Core) { c.Base = 0; c.Entries = entries(1, 6) }, true},
		{"another root", func(c *api.Core) { c.Root = api.Digest{} }, true},
		{"an entry that has no bytes", func(c *api.Core) { c.Entries[0] = tooLong() }, true},
		{"Id -1", func(c *api.Core) { c.Id = -1 }, false},
		{"Id 3", func(c *api.Core) { c.Id = 3 }, false},
		{"View -1", func(c *api.Core) { c.View = -1 }, false},
		{"View past Greatest", func(c *api.Core) { c.View = api.Greatest + 1 }, false},
		{"Normal -1", func(c *api.Core) { c.Normal = -1 }, false},
		{"Normal above View", func(c *api.Core) { c.Normal = 5 }, false},
		{"Status 3", func(c *api.Core) { c.Status = 3 }, false},
		{"Status -1", func(c *api.Core) { c.Status = -1 }, false},
		{"Best -2", func(c *api.Core) { c.Best = -2 }, false},
		{"Best 3", func(c *api.Core) { c.Best = 3 }, false},
	}
	for _, nodes := range []int{-3, 0, 1, 2, 4, 6, 8, 9, 11, math.MaxInt, math.MinInt} {
		list = append(list, judged{"other Nodes", func(c *api.Core) { c.Nodes = nodes }, false})
	}
	eachNamed(func(name string, c api.Core) { judge(t, name, c, list) })
}

// P20.1: up to MaxEntries entries, and a last number up to Greatest.
func TestCheckEntries(t *testing.T) {
	full := func(base int64, count int) func(c *api.Core) {
		return func(c *api.Core) {
			c.Base, c.Commit = base, base
			c.Entries = make([]api.Entry, count)
			if len(c.Acks) > 0 {
				c.Acks[c.Id] = base + int64(count)
			}
			for i := range c.Acks {
				c.Acks[i] = min(c.Acks[i], base+int64(count))
			}
		}
	}
	list := []judged{
		{"no entries, Base 0", full(0, 0), true},
		{"32 entries", full(2, 32), true},
		{"33 entries", full(2, 33), false},
		{"the last number at Greatest", full(api.Greatest-4, 4), true},
		{"the last number past Greatest", full(api.Greatest-3, 4), false},
		{"Base at Greatest", full(api.Greatest, 0), true},
		{"Base at Greatest, an entry", full(api.Greatest, 1), false},
		{"Base past Greatest", full(api.Greatest+1, 0), false},
		{"the greatest Base", full(math.MaxInt64, 4), false},
		{"the least Base", full(math.MinInt64, 4), false},
	}
	eachNamed(func(name string, c api.Core) { judge(t, name, c, list) })
}

// P20.1: a view up to Greatest, in each status.
func TestCheckGreatestView(t *testing.T) {
	for _, view := range []int64{api.Greatest - 2, api.Greatest - 1, api.Greatest} { // Greatest modulo 3 is 1
		leader := int(view % 3)
		judge(t, "a great view", but(backup(), func(c *api.Core) { c.Id, c.View, c.Normal = (leader+1)%3, view, view }), []judged{
			{"as it is", func(*api.Core) {}, true},
			{"one more", func(c *api.Core) { c.View, c.Normal, c.Id = view+1, view+1, (leader+2)%3 }, view < api.Greatest},
		})
		judge(t, "a great view, primary", but(primary(), func(c *api.Core) { c.Id, c.View, c.Normal, c.Acks = leader, view, view, []int64{6, 6, 6} }), []judged{
			{"as it is", func(*api.Core) {}, true},
			{"one more", func(c *api.Core) { c.View, c.Normal, c.Id = view+1, view+1, (leader+1)%3 }, view < api.Greatest},
		})
	}
	for _, status := range []int{api.StatusChange, api.StatusLag} {
		late := but(lagging(), func(c *api.Core) { c.View, c.Status = api.Greatest, status })
		if status == api.StatusChange {
			late.Starts = []bool{true, true, true}
		}
		judge(t, "a great view", late, []judged{
			{"as it is", func(*api.Core) {}, true},
			{"Normal one below", func(c *api.Core) { c.Normal = api.Greatest - 1 }, true},
			{"Normal is View", func(c *api.Core) { c.Normal = api.Greatest }, false},
			{"one more", func(c *api.Core) { c.View, c.Id = api.Greatest+1, 0 }, false},
		})
	}
}

// P20.1: StatusNormal, of one who isn't the primary.
func TestCheckBackup(t *testing.T) {
	judge(t, "backup", backup(), []judged{
		{"Id of another backup", func(c *api.Core) { c.Id = 0 }, true},
		{"Id of the primary", func(c *api.Core) { c.Id = 1 }, false},
		{"Normal below View", func(c *api.Core) { c.Normal = 3 }, false},
		{"View above Normal", func(c *api.Core) { c.View = 6 }, false},
		{"StatusChange", func(c *api.Core) { c.Status = api.StatusChange }, false},
		{"StatusLag", func(c *api.Core) { c.Status = api.StatusLag }, false},
		{"acks", func(c *api.Core) { c.Acks = []int64{0, 0, 6} }, false},
		{"an ack", func(c *api.Core) { c.Acks = []int64{0} }, false},
		{"starts", func(c *api.Core) { c.Starts = []bool{false, false, true} }, false},
		{"a start", func(c *api.Core) { c.Starts = []bool{false} }, false},
		{"a vote", func(c *api.Core) { c.Votes = []api.Vote{{}} }, false},
		{"voted", func(c *api.Core) { c.Voted = true }, false},
		{"Best 0", func(c *api.Core) { c.Best = 0 }, false},
		{"Best 2", func(c *api.Core) { c.Best = 2 }, false},
		{"lists without elements", func(c *api.Core) { c.Acks, c.Starts, c.Votes = []int64{}, []bool{}, []api.Vote{} }, true},
	})
}

// P20.1: StatusNormal, of the primary.
func TestCheckPrimary(t *testing.T) {
	judge(t, "primary", primary(), []judged{
		{"Id of a backup", func(c *api.Core) { c.Id = 0 }, false},
		{"Normal below View", func(c *api.Core) { c.Normal = 3 }, false},
		{"StatusChange", func(c *api.Core) { c.Status = api.StatusChange }, false},
		{"StatusLag", func(c *api.Core) { c.Status = api.StatusLag }, false},
		{"no acks", func(c *api.Core) { c.Acks = nil }, false},
		{"two acks", func(c *api.Core) { c.Acks = []int64{5, 6} }, false},
		{"four acks", func(c *api.Core) { c.Acks = []int64{5, 6, 3, 0} }, false},
		{"an own ack below", func(c *api.Core) { c.Acks[1] = 5 }, false},
		{"an own ack above", func(c *api.Core) { c.Acks[1] = 7 }, false},
		{"an ack at the last number", func(c *api.Core) { c.Acks[2] = 6 }, true},
		{"an ack past the last number", func(c *api.Core) { c.Acks[2] = 7 }, false},
		{"an ack of 0", func(c *api.Core) { c.Acks[0] = 0 }, true},
		{"an ack of -1", func(c *api.Core) { c.Acks[0] = -1 }, false},
		{"starts", func(c *api.Core) { c.Starts = []bool{false, true, false} }, false},
		{"a vote", func(c *api.Core) { c.Votes = []api.Vote{{}} }, false},
		{"voted", func(c *api.Core) { c.Voted = true }, false},
		{"Best 1", func(c *api.Core) { c.Best = 1 }, false},
	})
}

// P20.1: StatusLag, which no primary has.
func TestCheckLagging(t *testing.T) {
	judge(t, "lagging", lagging(), []judged{
		{"Id of another one", func(c *api.Core) { c.Id = 0 }, true},
		{"Id of the primary", func(c *api.Core) { c.Id = 1 }, false},
		{"Id of the primary, acks", func(c *api.Core) { c.Id, c.Acks = 1, []int64{0, 6, 0} }, false},
		{"Normal one below View", func(c *api.Core) { c.Normal = 3 }, true},
		{"Normal is View", func(c *api.Core) { c.Normal = 4 }, false},
		{"Normal 0", func(c *api.Core) { c.Normal = 0 }, true},
		{"StatusNormal", func(c *api.Core) { c.Status = api.StatusNormal }, false},
		{"StatusChange", func(c *api.Core) { c.Status = api.StatusChange }, false},
		{"acks", func(c *api.Core) { c.Acks = []int64{0, 0, 6} }, false},
		{"starts", func(c *api.Core) { c.Starts = []bool{false, false, true} }, false},
		{"a vote", func(c *api.Core) { c.Votes = []api.Vote{{}} }, false},
		{"voted", func(c *api.Core) { c.Voted = true }, false},
		{"Best 0", func(c *api.Core) { c.Best = 0 }, false},
	})
}

// P20.1: StatusChange, of one who isn't to lead.
func TestCheckChanging(t *testing.T) {
	judge(t, "changing", changing(), []judged{
		{"Id of another one, whose start isn't set", func(c *api.Core) { c.Id = 0 }, false},
		{"Id of another one, whose start is set", func(c *api.Core) { c.Id, c.Starts[0] = 0, true }, true},
		{"Normal one below View", func(c *api.Core) { c.Normal = 3 }, true},
		{"Normal is View", func(c *api.Core) { c.Normal = 4 }, false},
		{"StatusNormal", func(c *api.Core) { c.Status = api.StatusNormal }, false},
		{"StatusLag", func(c *api.Core) { c.Status = api.StatusLag }, false},
		{"all starts", func(c *api.Core) { c.Starts = []bool{true, true, true} }, true},
		{"no starts", func(c *api.Core) { c.Starts = nil }, false},
		{"two starts", func(c *api.Core) { c.Starts = []bool{true, true} }, false},
		{"four starts", func(c *api.Core) { c.Starts = []bool{true, true, true, true} }, false},
		{"its own start not set", func(c *api.Core) { c.Starts = []bool{true, true, false} }, false},
		{"acks", func(c *api.Core) { c.Acks = []int64{0, 0, 6} }, false},
		{"voted", func(c *api.Core) { c.Voted = true }, true},
		{"a vote", func(c *api.Core) { c.Votes = []api.Vote{{}} }, false},
		{"Best 0", func(c *api.Core) { c.Best = 0 }, false},
		{"Best 2", func(c *api.Core) { c.Best = 2 }, false},
	})
}

// P20.1: StatusChange, of one who is to lead.
func TestCheckElecting(t *testing.T) {
	votes := func(list ...api.Vote) func(c *api.Core) { return func(c *api.Core) { c.Votes = list } }
	judge(t, "electing", electing(), []judged{
		{"Id of another one", func(c *api.Core) { c.Id = 2 }, false},
		{"its own start not set", func(c *api.Core) { c.Starts = []bool{true, false, true} }, false},
		{"no starts", func(c *api.Core) { c.Starts = nil }, false},
		{"acks", func(c *api.Core) { c.Acks = []int64{0, 6, 0} }, false},
		{"Normal one below View", func(c *api.Core) { c.Normal = 3 }, true},
		{"Normal is View", func(c *api.Core) { c.Normal = 4 }, false},
		{"StatusNormal", func(c *api.Core) { c.Status = api.StatusNormal }, false},
		{"voted", func(c *api.Core) { c.Voted = true }, true},
		{"Best 0", func(c *api.Core) { c.Best = 0 }, true},
		{"Best 1, its own", func(c *api.Core) { c.Best = 1 }, true},
		{"Best 2", func(c *api.Core) { c.Best = 2 }, true},
		{"votes of all", votes(vote(2, 0, 0), vote(0, 3, api.Greatest), vote(1, 0, 9)), true},
		{"two votes of one", votes(vote(2, 0, 0), vote(0, 1, 1), vote(2, 1, 1)), false},
		{"two like votes", votes(vote(0, 1, 1), vote(0, 1, 1)), false},
		{"four votes", votes(vote(0, 0, 0), vote(1, 0, 0), vote(2, 0, 0), vote(3, 0, 0)), false},
		{"a vote of -1", votes(vote(-1, 0, 0)), false},
		{"a vote of 3", votes(vote(0, 0, 0), vote(3, 0, 0)), false},
		{"a vote of 8", votes(vote(8, 0, 0)), false},
		{"a vote with Normal -1", votes(vote(0, -1, 0)), false},
		{"a vote with Normal at View", votes(vote(2, 4, 0)), false},
		{"a vote with Last -1", votes(vote(0, 0, -1)), false},
		{"a vote with Last past Greatest", votes(vote(1, 0, api.Greatest+1)), false},
		{"a wrong vote behind a right one", votes(vote(0, 0, 1), vote(1, 5, 1)), false},
	})
}

// P20.1: of five and of seven, in each status.
func TestCheckMore(t *testing.T) {
	for _, nodes := range []int{5, 7} {
		for id := range nodes {
			view := int64(id + nodes)
			starts := make([]bool, nodes)
			starts[id] = true
			acks := make([]int64, nodes)
			acks[id] = 6
			lead := but(primary(), func(c *api.Core) { c.Id, c.Nodes, c.View, c.Normal, c.Acks = id, nodes, view, view, acks })
			elect := but(electing(), func(c *api.Core) { c.Id, c.Nodes, c.View, c.Starts, c.Best = id, nodes, view, starts, nodes-1 })
			lag := but(lagging(), func(c *api.Core) { c.Id, c.Nodes, c.View = id, nodes, view+1 })
			for _, c := range []api.Core{lead, elect, lag} {
				judge(t, "of more", c, []judged{
					{"as it is", func(*api.Core) {}, true},
					{"Id past Nodes", func(c *api.Core) { c.Id = nodes }, false},
					{"Best at Nodes", func(c *api.Core) { c.Best = nodes }, false},
					{"starts of one less", func(c *api.Core) { c.Starts = slices.Repeat([]bool{true}, nodes-1) }, false},
					{"acks of one more", func(c *api.Core) { c.Acks = make([]int64, nodes+1); c.Acks[id] = 6 }, false},
				})
			}
		}
	}
}

// P20.1: drawn cores, right ones and such as part from them by a field or two, are what the chapter's words say.
func TestCheckDrawn(t *testing.T) {
	d := draw(1)
	right := 0
	for range 60000 {
		c := d.core()
		for range d.Intn(3) {
			d.harm(&c)
		}
		want := wordRight(c)
		mustBe(t, "P20.1: Check of a drawn core", vr.Check(c), want)
		last, leads := int64(0), false
		if want {
			right++
			last, leads = wordLast(c), wordLeads(c)
		}
		mustBe(t, "P20.1: Last of a drawn core", vr.Last(c), last)
		mustBe(t, "P20.1: Leads of a drawn core", vr.Leads(c), leads)
		if t.Failed() {
			t.Fatalf("it is %s", show(c))
		}
	}
	if right < 20000 || right > 50000 {
		t.Errorf("%d of 60000 drawn cores are right", right)
	}
}
