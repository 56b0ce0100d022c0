package vr_test

import (
	"slices"
	"testing"

	"veneer/api"
	"veneer/vr"
)

// starting, balloting: what somebody sends who wants to change to a view.
func starting(from, to int, view int64) api.Msg {
	return api.Msg{Kind: api.Start, From: from, To: to, View: view}
}

func balloting(from, to int, view, normal, last int64) api.Msg {
	return api.Msg{Kind: api.Ballot, From: from, To: to, View: view, Normal: normal, Last: last}
}

// toLead: what one who is to lead sends once it does.
func toLead(c api.Core) []api.Msg {
	return all(c, api.Msg{Kind: api.Begun, From: c.Id, View: c.View, Last: c.Base + int64(len(c.Entries)), Commit: c.Commit})
}

// leading: the core that leads with the entries that it has.
func leading(c api.Core) api.Core {
	return but(c, func(c *api.Core) {
		c.Status, c.Normal, c.Left = api.StatusNormal, c.View, 2
		c.Starts, c.Votes, c.Voted, c.Best = nil, nil, false, -1
		c.Acks = make([]int64, c.Nodes)
		c.Acks[c.Id] = c.Base + int64(len(c.Entries))
	})
}

// P20.2: a Start of a later view: a change to it begins, and of three that is most: who isn't to lead votes.
func TestStartOfALaterView(t *testing.T) {
	eachNamed(func(name string, c api.Core) {
		for view := int64(5); view < 12; view++ {
			for from := range 3 {
				if from == c.Id {
					continue
				}
				want := begun(c, view)
				want.core.Starts[from], want.core.Voted = true, true
				if leader := int(view % 3); leader == c.Id {
					want.core.Votes = []api.Vote{vote(c.Id, c.Normal, 6)}
				} else {
					want.out = append(want.out, balloting(c.Id, leader, view, c.Normal, 6))
				}
				handles(t, name+", a later Start", c, starting(from, c.Id, view), want)
			}
		}
	})
	c := but(backup(), func(c *api.Core) { c.View, c.Normal = api.Greatest-1, api.Greatest-1 })
	want := begun(c, api.Greatest)
	want.core.Starts[0], want.core.Voted = true, true
	want.out = append(want.out, balloting(2, 1, api.Greatest, api.Greatest-1, 6))
	handles(t, "a Start of Greatest", c, starting(0, 2, api.Greatest), want)
	stays(t, "a Start past Greatest", c, starting(0, 2, api.Greatest+1))
}

// P20.2: a Start of the view itself: it counts in StatusChange, a primary says that the view has begun, all others are silent.
func TestStartOfTheView(t *testing.T) {
	for _, from := range []int{0, 2} {
		begun := api.Msg{Kind: api.Begun, From: 1, To: from, View: 4, Last: 6, Commit: 4}
		handles(t, "a Start to a primary", primary(), starting(from, 1, 4), reached{core: primary(), out: []api.Msg{begun}})
	}
	for _, from := range []int{0, 1} {
		stays(t, "a Start to a backup", backup(), starting(from, 2, 4))
		stays(t, "a Start to one who lags", lagging(), starting(from, 2, 4))
	}
	eachNamed(func(name string, c api.Core) {
		for from := range 3 {
			stays(t, name+", a Start of the past", c, starting(from, c.Id, 3))
		}
	})
}

// P20.2: Starts are counted, each replica's once; it votes once, when there are those of most.
func TestCount(t *testing.T) {
	for _, nodes := range []int{3, 5, 7} {
		most := nodes/2 + 1
		for id := range nodes {
			for leader := range nodes {
				c := api.Core{Id: id, Nodes: nodes, View: int64(nodes + leader), Normal: 1, Status: api.StatusChange, Entries: entries(1, 3), Commit: 1, Left: 4, Starts: make([]bool, nodes), Best: -1}
				c.Starts[id] = true
				count := 1
				for from := range nodes {
					if from == id {
						continue
					}
					want := reached{core: but(c, func(c *api.Core) { c.Starts[from] = true })}
					if count++; count == most {
						want.core.Voted = true
						if id == leader {
							want.core.Votes = []api.Vote{vote(id, 1, 3)}
						} else {
							want.out = []api.Msg{balloting(id, leader, c.View, 1, 3)}
						}
					}
					m := starting(from, id, c.View)
					handles(t, "a Start is counted", c, m, want)
					c = want.core
					stays(t, "a Start that came already", c, m)
				}
			}
		}
	}
}

// P20.2: one that voted already doesn't so again, whatever Starts come.
func TestVotedAlready(t *testing.T) {
	c := but(changing(), func(c *api.Core) { c.Voted = true })
	for _, from := range []int{0, 1} {
		handles(t, "a Start to one who voted", c, starting(from, 2, 4), reached{core: but(c, func(c *api.Core) { c.Starts[from] = true })})
	}
	c = but(electing(), func(c *api.Core) { c.Voted = true })
	handles(t, "a Start to one who is to lead, and voted", c, starting(2, 1, 4), reached{core: but(c, func(c *api.Core) { c.Starts[2] = true })})
}

// P20.2: the chapter's example: of three, a Ballot makes who is to lead a primary.
func TestElection(t *testing.T) {
	c := api.Core{Id: 1, Nodes: 3, View: 1, Status: api.StatusChange, Left: 10, Starts: []bool{false, true, false}, Best: -1}
	voted := but(c, func(c *api.Core) { c.Starts[2], c.Voted, c.Votes = true, true, []api.Vote{vote(1, 0, 0)} })
	handles(t, "the example's Start", c, starting(2, 1, 1), reached{core: voted})
	led := leading(voted)
	handles(t, "the example's Ballot", voted, balloting(2, 1, 1, 0, 0), reached{core: led, out: toLead(led), note: api.Note{Kind: api.NoteAdopt}})
}

// P20.2: a Ballot is a Start, too, and its vote is held against the own one: by Normal, then by Last, then by the number.
func TestBallot(t *testing.T) {
	for _, v := range []struct {
		what   string
		from   int
		normal int64
		last   int64
		itself bool
	}{
		{"a like one behind", 2, 2, 6, true},
		{"a like one ahead", 0, 2, 6, false},
		{"a longer one", 2, 2, 7, false},
		{"a longer one ahead", 0, 2, 7, false},
		{"a shorter one", 0, 2, 5, true},
		{"a later one", 2, 3, 0, false},
		{"a later one ahead", 0, 3, 0, false},
		{"an earlier one", 0, 1, api.Greatest, true},
		{"the earliest one", 2, 0, 0, true},
	} {
		for _, voted := range []bool{false, true} { // by the count that the Ballot itself makes, or ahead of that
			c := but(electing(), func(c *api.Core) {
				if voted {
					c.Starts[v.from], c.Voted, c.Votes = true, true, []api.Vote{vote(1, 2, 6)}
				}
			})
			want := reached{core: leading(c), out: toLead(leading(c)), note: api.Note{Kind: api.NoteAdopt, Behind: 4}}
			if !v.itself {
				want = reached{core: but(c, func(c *api.Core) {
					c.Starts[v.from], c.Voted, c.Best = true, true, v.from
					c.Votes = []api.Vote{vote(1, 2, 6), vote(v.from, v.normal, v.last)}
				})}
				want.out = []api.Msg{{Kind: api.Ask, From: 1, To: v.from, View: 4, Behind: 4}}
			}
			handles(t, "a Ballot: "+v.what, c, balloting(v.from, 1, 4, v.normal, v.last), want)
		}
	}
}

// P20.2: a Ballot of a later view begins a change, and may end it in the same step: two notes would come, the later one does.
func TestBallotOfALaterView(t *testing.T) {
	eachNamed(func(name string, c api.Core) {
		for from := range 3 {
			view := int64(6 + c.Id) // which it is to lead
			if from == c.Id {
				continue
			}
			change := begun(c, view)
			led := leading(change.core)
			want := reached{core: led, out: append(change.out, toLead(led)...), note: api.Note{Kind: api.NoteAdopt, Behind: 4}}
			handles(t, name+", a later Ballot", c, balloting(from, c.Id, view, 0, 9), want)
			change.core.Starts[from], change.core.Voted, change.core.Best = true, true, from
			change.core.Votes = []api.Vote{vote(c.Id, c.Normal, 6), vote(from, 5, 1)}
			change.out = append(change.out, api.Msg{Kind: api.Ask, From: c.Id, To: from, View: view, Behind: 4})
			handles(t, name+", a later Ballot that is better", c, balloting(from, c.Id, view, 5, 1), change)
		}
	})
}

// P20.2: of five, where a Ballot of a later view isn't yet that of most.
func TestBallotOfFive(t *testing.T) {
	c := api.Core{Id: 2, Nodes: 5, View: 2, Normal: 2, Entries: entries(1, 3), Commit: 2, Left: 1, Acks: []int64{0, 3, 3, 3, 1}, Best: -1}
	want := begun(c, 7)
	want.core.Starts[4] = true
	want.core.Votes = []api.Vote{vote(4, 1, 9)}
	handles(t, "the first Ballot", c, balloting(4, 2, 7, 1, 9), want)
	c = want.core
	want = reached{core: but(c, func(c *api.Core) {
		c.Starts[0], c.Voted, c.Best = true, true, 2
		c.Votes = []api.Vote{vote(4, 1, 9), vote(2, 2, 3), vote(0, 2, 3)}
	})}
	// The second one makes the count, and so the own vote; its vote is the third one: the best is that of 0.
	want.core.Best = 0
	want.out = []api.Msg{{Kind: api.Ask, From: 2, To: 0, View: 7, Behind: 2}}
	handles(t, "the second Ballot", c, balloting(0, 2, 7, 2, 3), want)
	led := leading(want.core)
	handles(t, "the second Ballot, of less", c, balloting(0, 2, 7, 2, 2), reached{core: led, out: toLead(led), note: api.Note{Kind: api.NoteAdopt, Behind: 2}})
	c = want.core
	later := but(c, func(c *api.Core) { c.Starts[1] = true; c.Votes = append(c.Votes, vote(1, 6, 30)) })
	handles(t, "a better one, too late", c, balloting(1, 2, 7, 6, 30), reached{core: later})
}

// P20.2: the own vote may be the one that makes most, and lead, ahead of the Ballot's.
func TestBallotThatCounts(t *testing.T) {
	c := api.Core{Id: 2, Nodes: 5, View: 7, Normal: 2, Status: api.StatusChange, Entries: entries(1, 3), Commit: 1, Left: 1, Starts: []bool{true, false, true, false, false}, Votes: []api.Vote{vote(0, 1, 9), vote(3, 1, 9)}, Best: -1}
	led := leading(c)
	want := reached{core: led, out: toLead(led), note: api.Note{Kind: api.NoteAdopt, Behind: 1}}
	handles(t, "a Ballot that counts", c, balloting(4, 2, 7, 6, 9), want)
	handles(t, "a Start that counts", c, starting(4, 2, 7), want)
	c.Votes[1].Normal = 3
	want = reached{core: but(c, func(c *api.Core) {
		c.Starts[4], c.Voted, c.Best = true, true, 3
		c.Votes = append(c.Votes, vote(2, 2, 3))
	}), out: []api.Msg{{Kind: api.Ask, From: 2, To: 3, View: 7, Behind: 1}}}
	handles(t, "a Start that counts, for another one", c, starting(4, 2, 7), want)
	want.core.Votes = append(want.core.Votes, vote(4, 6, 9))
	handles(t, "a Ballot that counts, for another one", c, balloting(4, 2, 7, 6, 9), want)
}

// P20.2: a replica's vote that came already counts as it came.
func TestBallotTwice(t *testing.T) {
	c := but(electing(), func(c *api.Core) {
		c.Nodes, c.View, c.Starts, c.Votes = 5, 6, make([]bool, 5), []api.Vote{vote(3, 1, 2)}
		c.Starts[1], c.Starts[3] = true, true
	})
	stays(t, "a Ballot twice", c, balloting(3, 1, 6, 1, 2))
	stays(t, "another Ballot of one", c, balloting(3, 1, 6, 5, 9))
	again := but(c, func(c *api.Core) { c.Voted, c.Votes = true, append(c.Votes, vote(1, 0, 0), vote(4, 0, 0)) })
	want := reached{core: but(again, func(c *api.Core) { c.Best = 3 }), out: []api.Msg{{Kind: api.Ask, From: 1, To: 3, View: 6, Behind: 4}}}
	handles(t, "another Ballot of one, where there are most", again, balloting(3, 1, 6, 5, 9), want)
}

// P20.2: a vote of who voted behind the best one's choice comes behind the others, and that is all.
func TestBallotBehindTheChoice(t *testing.T) {
	want := but(chosen(), func(c *api.Core) { c.Starts[2], c.Votes = true, append(c.Votes, vote(2, 3, 100)) })
	handles(t, "a Ballot behind the choice", chosen(), balloting(2, 1, 4, 3, 100), reached{core: want})
	handles(t, "a Start behind the choice", chosen(), starting(2, 1, 4), reached{core: but(chosen(), func(c *api.Core) { c.Starts[2] = true })})
}

// P20.2: a vote alone isn't enough: it must have voted itself.
func TestBallotsWithoutAVote(t *testing.T) {
	c := but(electing(), func(c *api.Core) { c.Nodes, c.View, c.Starts = 5, 6, []bool{false, true, false, false, false} })
	want := but(c, func(c *api.Core) { c.Starts[3], c.Votes = true, []api.Vote{vote(3, 1, 2)} })
	handles(t, "the first Ballot", c, balloting(3, 1, 6, 1, 2), reached{core: want})
	odd := but(c, func(c *api.Core) { c.Votes = []api.Vote{vote(3, 1, 2), vote(4, 1, 2)} }) // as nobody comes to
	want = but(odd, func(c *api.Core) { c.Starts[0], c.Votes = true, append(c.Votes, vote(0, 1, 2)) })
	handles(t, "votes of most, not of its own", odd, balloting(0, 1, 6, 1, 2), reached{core: want})
}

// P20.2: a Ballot goes to who is to lead its view, and has a Normal below it.
func TestBallotsThatAreNone(t *testing.T) {
	eachNamed(func(name string, c api.Core) {
		for from := range 3 {
			for view := int64(3); view < 12; view++ {
				for normal := max(0, view-2); normal <= view+1; normal++ {
					m := balloting(from, c.Id, view, normal, 9)
					if view < 4 || from == c.Id || view%3 != int64(c.Id) || normal >= view {
						stays(t, name+", a Ballot that is none", c, m)
					}
				}
			}
		}
		stays(t, name+", a Ballot of less than no entries", c, balloting((c.Id+1)%3, c.Id, int64(6+c.Id), 1, -1))
		stays(t, name+", a Ballot of too many", c, balloting((c.Id+1)%3, c.Id, int64(6+c.Id), 1, api.Greatest+1))
	})
}

// P20.2: who leads already says so.
func TestBallotToAPrimary(t *testing.T) {
	for _, from := range []int{0, 2} {
		begun := api.Msg{Kind: api.Begun, From: 1, To: from, View: 4, Last: 6, Commit: 4}
		handles(t, "a Ballot to a primary", primary(), balloting(from, 1, 4, 3, 9), reached{core: primary(), out: []api.Msg{begun}})
	}
}

// P20.2: a change from its beginning on: five replicas that are told all come to one primary, with the best log.
func TestAWholeChange(t *testing.T) {
	logs := []int64{3, 7, 5, 4, 2}
	normals := []int64{0, 1, 2, 2, 2}
	var cores []api.Core
	var flying []api.Msg
	for id := range 5 {
		k := api.Kept{View: 3, Normal: normals[id], Entries: entries(1, logs[id])}
		c, e := vr.Restart(id, 5, k, api.Digest{})
		mustBe(t, "P20.1: Restart", e, api.OK)
		cores = append(cores, c)
	}
	for range 20 {
		for id := range cores {
			next, out, _ := vr.Tick(cores[id])
			cores[id], flying = next, append(flying, out...)
		}
		for len(flying) > 0 {
			m := flying[0]
			next, out, _ := vr.Handle(cores[m.To], m)
			cores[m.To], flying = next, append(flying[1:], out...)
		}
	}
	for id, c := range cores {
		what := "P20.2: behind a whole change"
		mustBe(t, what+": View", c.View, cores[0].View)
		mustBe(t, what+": Status", c.Status, api.StatusNormal)
		mustBe(t, what+": Leads", vr.Leads(c), int64(id) == c.View%5)
		if !slices.Equal(c.Entries, cores[0].Entries) || len(c.Entries) < 4 {
			t.Errorf("%s: %s; want %s", what, show(c.Entries), show(cores[0].Entries))
		}
	}
}
