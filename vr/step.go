package vr

import (
	"slices"

	"veneer/api"
	"veneer/view"
)

// step is a replica on its way from one core to the next: what it has become so far, what it sends, what is to be written.
type step struct {
	core api.Core // its lists are nobody else's
	sent []api.Msg
	note api.Note
}

// begin: a step from a core that is right, or one that does nothing.
func begin(c api.Core) *step { return &step{core: apart(c)} }

// apart: the core with lists of its own, as a struct that is copied shares them still.
func apart(c api.Core) api.Core {
	c.Entries = slices.Clone(c.Entries)
	c.Acks = slices.Clone(c.Acks)
	c.Starts = slices.Clone(c.Starts)
	c.Votes = slices.Clone(c.Votes)
	return c
}

// inStatus: a core that comes to a status, with nothing left of the one that it had.
func inStatus(c api.Core, status int) api.Core {
	c.Status = status
	c.Acks, c.Starts, c.Votes = nil, nil, nil
	c.Voted, c.Best = false, -1
	return c
}

// inChange: a core that wants to change to its view, and knows of no other one that does.
func inChange(c api.Core) api.Core {
	c = inStatus(c, api.StatusChange)
	c.Starts = make([]bool, c.Nodes)
	c.Starts[c.Id] = true
	c.Left = view.Wait(c.Id)
	return c
}

// inLead: a core that leads its view, and knows of no other one's log.
func inLead(c api.Core) api.Core {
	c = inStatus(c, api.StatusNormal)
	c.Normal = c.View
	c.Acks = make([]int64, c.Nodes)
	c.Acks[c.Id] = last(c)
	c.Left = api.BeatEvery
	return c
}

// write: what the journal is to write. A later note has in it what an earlier one of the step says.
func (s *step) write(kind int, behind int64) { s.note = api.Note{Kind: kind, Behind: behind} }

// send: a message goes, with what each one tells.
func (s *step) send(to int, m api.Msg) {
	m.From, m.To, m.View = s.core.Id, to, s.core.View
	m.Entries = slices.Clone(m.Entries) // lest what goes to two of them is shared
	s.sent = append(s.sent, m)
}

// sendAll: a message goes to each other replica.
func (s *step) sendAll(m api.Msg) {
	for to := range s.core.Nodes {
		if to != s.core.Id {
			s.send(to, m)
		}
	}
}

// ask: somebody is to tell the entries behind what is committed here.
func (s *step) ask(whom int) { s.send(whom, api.Msg{Kind: api.Ask, Behind: s.core.Commit}) }

// ballot: the primary is to know what log there is here.
func (s *step) ballot() {
	s.send(primary(s.core), api.Msg{Kind: api.Ballot, Normal: s.core.Normal, Last: last(s.core)})
}

// begun: what a primary says of a view that is normal.
func (s *step) begun() api.Msg {
	return api.Msg{Kind: api.Begun, Last: last(s.core), Commit: s.core.Commit}
}

// acknowledge: the primary is to know how many of its entries are here.
func (s *step) acknowledge(whom int) { s.send(whom, api.Msg{Kind: api.Ok, Last: last(s.core)}) }

// propose: an entry comes behind the others, and the others are to have it.
func (s *step) propose(e api.Entry) {
	s.add(e)
	s.core.Acks[s.core.Id] = last(s.core)
	s.sendAll(api.Msg{Kind: api.Prepare, Last: last(s.core), Commit: s.core.Commit, Entries: []api.Entry{e}})
}

// add: an entry comes behind the others.
func (s *step) add(e api.Entry) {
	s.core.Entries = append(s.core.Entries, e)
	s.write(api.NoteEntry, 0)
}

// tick: time passes.
func (s *step) tick() {
	s.core.Left = max(s.core.Left-1, 0)
	switch {
	case s.core.Left > 0:
		s.remind()
	case leads(s.core):
		s.core.Left = api.BeatEvery
		s.sendAll(api.Msg{Kind: api.Beat, Last: last(s.core), Commit: s.core.Commit})
	default:
		s.change(s.core.View + 1)
	}
}

// remind: what was sent, and is waited for, goes again, as it may have been lost.
func (s *step) remind() {
	switch s.core.Status {
	case api.StatusLag:
		s.ask(primary(s.core))
	case api.StatusChange:
		s.sendAll(api.Msg{Kind: api.Start})
		if s.core.Voted && s.core.Id != primary(s.core) {
			s.ballot()
		}
		if s.core.Best != -1 && s.core.Best != s.core.Id {
			s.ask(s.core.Best)
		}
	}
}

// change: a change to a view begins.
func (s *step) change(to int64) {
	if to > api.Greatest { // there is none: all that is left is to wait
		s.core.Left = view.Wait(s.core.Id)
		return
	}
	s.core.View = to
	s.core = inChange(s.core)
	s.write(api.NoteView, 0)
	s.sendAll(api.Msg{Kind: api.Start})
}

// count: once most want to change, the view's primary is to have the vote.
func (s *step) count() {
	if s.core.Voted || starts(s.core) < view.Quorum(s.core.Nodes) {
		return
	}
	s.core.Voted = true
	if s.core.Id != primary(s.core) {
		s.ballot()
		return
	}
	s.take(api.Vote{Replica: s.core.Id, Normal: s.core.Normal, Last: last(s.core)})
}

// starts: how many want to change.
func starts(c api.Core) int {
	count := 0
	for _, wants := range c.Starts {
		if wants {
			count++
		}
	}
	return count
}

// take: a vote comes. Once there are those of most, the best one's log is the view's: what was committed is in it.
func (s *step) take(v api.Vote) {
	c := &s.core
	if !slices.ContainsFunc(c.Votes, func(other api.Vote) bool { return other.Replica == v.Replica }) {
		c.Votes = append(c.Votes, v)
	}
	if c.Best != -1 || !c.Voted || len(c.Votes) < view.Quorum(c.Nodes) {
		return
	}
	c.Best = c.Votes[view.Best(c.Votes)].Replica
	if c.Best == c.Id {
		s.lead(c.Entries[c.Commit-c.Base:])
		return
	}
	s.ask(c.Best)
}

// lead: the view is normal, and these are the entries behind what is committed.
func (s *step) lead(behind []api.Entry) {
	s.adopt(behind)
	s.core = inLead(s.core)
	s.sendAll(s.begun())
}

// adopt: the entries behind what is committed are these.
func (s *step) adopt(behind []api.Entry) {
	committed := s.core.Entries[:s.core.Commit-s.core.Base]
	s.core.Entries = slices.Concat(committed, behind)
	s.write(api.NoteAdopt, s.core.Commit)
}

// hear: so many are committed, as somebody says who may know of more than are here.
func (s *step) hear(commit int64) {
	s.core.Commit = max(s.core.Commit, min(commit, last(s.core)))
}
