package vr

import (
	"veneer/api"
	"veneer/view"
)

// deed: what a message does. A prepare is a beat with an entry, a ballot is a start with a vote: they are held against what each has of its own, and fall through to what the others are held against.
func (s *step) deed(m api.Msg) func(m api.Msg) {
	switch m.Kind {
	case api.Prepare:
		if len(m.Entries) != 1 {
			break
		}
		fallthrough
	case api.Beat, api.Begun:
		if m.From == view.Primary(m.View, s.core.Nodes) {
			return s.heed
		}
	case api.Ballot:
		if s.core.Id != view.Primary(m.View, s.core.Nodes) || m.Normal >= m.View {
			break
		}
		fallthrough
	case api.Start:
		return s.join
	case api.Ask:
		return s.answer
	case api.Tell:
		return s.learn
	case api.Ok:
		return s.mark
	}
	return s.pass
}

// pass: a message does nothing.
func (s *step) pass(api.Msg) {}

// heed: the primary of a view says that the view is normal.
func (s *step) heed(m api.Msg) {
	if m.View > s.core.View || s.core.Status != api.StatusNormal {
		s.lag(m.View)
		return
	}
	s.core.Left = view.Wait(s.core.Id)
	if m.Kind == api.Prepare && m.Last == last(s.core)+1 && len(s.core.Entries) < api.MaxEntries {
		s.add(m.Entries[0])
	}
	s.hear(m.Commit)
	if m.Last > last(s.core) {
		s.ask(m.From)
	} else {
		s.acknowledge(m.From)
	}
}

// lag: a view is normal without this replica, which doesn't have its log yet, or still not.
func (s *step) lag(in int64) {
	if in > s.core.View {
		s.core.View = in
		s.write(api.NoteView, 0)
	}
	s.core = inStatus(s.core, api.StatusLag)
	s.core.Left = view.Wait(s.core.Id)
	s.ask(primary(s.core))
}

// join: somebody wants to change to a view, or says how its log is, which it does only if it wants that.
func (s *step) join(m api.Msg) {
	if m.View > s.core.View {
		s.change(m.View)
	}
	if s.core.Status != api.StatusChange {
		if leads(s.core) { // it was changed to already
			s.send(m.From, s.begun())
		}
		return
	}
	s.core.Starts[m.From] = true
	s.count()
	if m.Kind == api.Ballot && s.core.Status == api.StatusChange { // the count may have made it the primary
		s.take(api.Vote{Replica: m.From, Normal: m.Normal, Last: m.Last})
	}
}

// answer: somebody asks for the entries behind a number.
func (s *step) answer(m api.Msg) {
	isNormal := s.core.Status == api.StatusNormal
	isElecting := s.core.Status == api.StatusChange && m.From == primary(s.core)
	if m.View != s.core.View || !isNormal && !isElecting {
		return
	}
	if m.Behind < s.core.Base { // they are gone
		s.send(m.From, api.Msg{Kind: api.Offer, Last: s.core.Base, Root: s.core.Root})
	} else if m.Behind <= last(s.core) {
		s.send(m.From, api.Msg{Kind: api.Tell, Behind: m.Behind, Commit: s.core.Commit, Entries: s.core.Entries[m.Behind-s.core.Base:]})
	}
}

// learn: somebody tells entries.
func (s *step) learn(m api.Msg) {
	c := &s.core
	n := m.Behind + int64(len(m.Entries))
	meets := isWithin(m.Behind, c.Base, c.Commit) && isWithin(n, c.Commit, min(api.Greatest, c.Base+api.MaxEntries))
	if m.View != c.View || !meets {
		return
	}
	told := m.Entries[c.Commit-m.Behind:]
	fromPrimary := m.From == primary(*c)
	switch {
	case c.Status == api.StatusLag && fromPrimary, c.Status == api.StatusNormal && fromPrimary && n > last(*c):
		s.follow(told, m)
	case c.Status == api.StatusChange && c.Id == primary(*c) && m.From == c.Best:
		s.lead(told)
	}
}

// follow: the primary's entries are those of this replica, too.
func (s *step) follow(told []api.Entry, m api.Msg) {
	s.adopt(told)
	s.core.Status, s.core.Normal = api.StatusNormal, s.core.View
	s.core.Left = view.Wait(s.core.Id)
	s.hear(m.Commit)
	s.acknowledge(m.From)
}

// mark: somebody has the primary's entries up to a number; what most have is committed.
func (s *step) mark(m api.Msg) {
	if m.View != s.core.View || !leads(s.core) || m.Last > last(s.core) {
		return
	}
	acks := s.core.Acks
	acks[m.From] = max(acks[m.From], m.Last)
	s.hear(view.Reached(acks))
}
