package vr_test

import (
	"slices"

	"veneer/api"
)

// The chapter's words once more, without the layers below, for the tests to hold the package against.

const (
	greatest   = int64(1) << 40
	maxEntries = 32
	window     = 8
	beatEvery  = 2
)

func wordQuorum(nodes int) int       { return nodes/2 + 1 }
func wordWait(id int) int            { return 8 + 2*id }
func wordLast(c api.Core) int64      { return c.Base + int64(len(c.Entries)) }
func wordIsPrimary(c api.Core) bool  { return int64(c.Id) == c.View%int64(c.Nodes) }
func wordLeads(c api.Core) bool      { return c.Status == 0 && wordIsPrimary(c) }
func from(n, least, most int64) bool { return n >= least && n <= most }
func wordMember(id, nodes int) bool {
	return slices.Contains([]int{3, 5, 7}, nodes) && id >= 0 && id < nodes
}
func none[T any](lists ...[]T) bool { return len(slices.Concat(lists...)) == 0 }
func unchanging(c api.Core) bool    { return none(c.Starts) && none(c.Votes) && !c.Voted && c.Best == -1 }
func count(flags []bool) (set int) {
	return len(slices.DeleteFunc(slices.Clone(flags), func(f bool) bool { return !f }))
}
func nth(c api.Core, n int64) []api.Entry { return c.Entries[n-c.Base:] }

// wordRight: whether a core is right.
func wordRight(c api.Core) bool {
	if !wordMember(c.Id, c.Nodes) || !from(c.View, 0, greatest) || !from(c.Normal, 0, c.View) {
		return false
	}
	if !from(c.Base, 0, greatest) || len(c.Entries) > maxEntries || wordLast(c) > greatest {
		return false
	}
	if !from(c.Commit, c.Base, wordLast(c)) || c.Left < 0 || c.Left > 1000 {
		return false
	}
	switch c.Status {
	case 0:
		return c.Normal == c.View && unchanging(c) && wordRightAcks(c)
	case 1:
		return c.Normal < c.View && none(c.Acks) && len(c.Starts) == c.Nodes && c.Starts[c.Id] && wordRightVotes(c)
	case 2:
		return c.Normal < c.View && !wordIsPrimary(c) && none(c.Acks) && unchanging(c)
	}
	return false
}

// wordRightAcks: whether its acks are.
func wordRightAcks(c api.Core) bool {
	if !wordIsPrimary(c) {
		return none(c.Acks)
	}
	for _, n := range c.Acks {
		if !from(n, 0, wordLast(c)) {
			return false
		}
	}
	return len(c.Acks) == c.Nodes && c.Acks[c.Id] == wordLast(c)
}

// wordRightVotes: whether its votes are.
func wordRightVotes(c api.Core) bool {
	if !wordIsPrimary(c) {
		return none(c.Votes) && c.Best == -1
	}
	for i, v := range c.Votes {
		for _, other := range c.Votes[:i] {
			if v.Replica == other.Replica {
				return false
			}
		}
		if v.Replica < 0 || v.Replica >= c.Nodes || !from(v.Normal, 0, c.View-1) || !from(v.Last, 0, greatest) {
			return false
		}
	}
	return c.Best >= -1 && c.Best < c.Nodes
}

// worded is a step by the chapter's words.
type worded struct {
	api.Core
	out  []api.Msg
	note api.Note
}

func wordedOf(c api.Core) *worded { return &worded{Core: own(c)} }

func (w *worded) primary() int { return int(w.View % int64(w.Nodes)) }

func (w *worded) post(kind, to int, m api.Msg) {
	m.Kind, m.From, m.To, m.View = kind, w.Id, to, w.View
	w.out = append(w.out, m)
}

func (w *worded) postAll(kind int, m api.Msg) {
	for i := 0; i < w.Nodes; i++ {
		if i == w.Id {
			continue
		}
		w.post(kind, i, m)
	}
}

func (w *worded) clear() {
	w.Acks, w.Starts, w.Votes, w.Voted, w.Best = nil, nil, nil, false, -1
}

func (w *worded) beginChange(v int64) {
	w.Left = wordWait(w.Id)
	if v > greatest {
		return
	}
	w.clear()
	w.View, w.Status = v, 1
	w.Starts = make([]bool, w.Nodes)
	w.Starts[w.Id] = true
	w.note = api.Note{Kind: 1}
	w.postAll(4, api.Msg{})
}

func (w *worded) count() {
	if w.Status != 1 || w.Voted || count(w.Starts) < wordQuorum(w.Nodes) {
		return
	}
	w.Voted = true
	if wordIsPrimary(w.Core) {
		w.takeVote(api.Vote{Replica: w.Id, Normal: w.Normal, Last: wordLast(w.Core)})
	} else {
		w.postBallot()
	}
}

func (w *worded) postBallot() {
	w.post(5, w.primary(), api.Msg{Normal: w.Normal, Last: wordLast(w.Core)})
}

func (w *worded) takeVote(v api.Vote) {
	known := false
	for _, other := range w.Votes {
		known = known || other.Replica == v.Replica
	}
	if !known {
		w.Votes = append(w.Votes, v)
	}
	if w.Best == -1 && w.Voted && len(w.Votes) >= wordQuorum(w.Nodes) {
		w.Best = wordBest(w.Votes)
		if w.Best == w.Id {
			w.leadWith(slices.Clone(nth(w.Core, w.Commit)))
		} else {
			w.post(7, w.Best, api.Msg{Behind: w.Commit})
		}
	}
}

// wordBest: the replica with the best vote.
func wordBest(votes []api.Vote) int {
	best := votes[0]
	for _, v := range votes {
		switch {
		case v.Normal != best.Normal:
			if v.Normal > best.Normal {
				best = v
			}
		case v.Last != best.Last:
			if v.Last > best.Last {
				best = v
			}
		case v.Replica < best.Replica:
			best = v
		}
	}
	return best.Replica
}

func (w *worded) setBehind(entries []api.Entry) {
	w.Entries = slices.Concat(w.Entries[:w.Commit-w.Base], entries)
	w.note = api.Note{Kind: 3, Behind: w.Commit}
}

func (w *worded) leadWith(entries []api.Entry) {
	w.setBehind(entries)
	w.clear()
	w.Status, w.Normal, w.Left = 0, w.View, beatEvery
	w.Acks = make([]int64, w.Nodes)
	w.Acks[w.Id] = wordLast(w.Core)
	w.postAll(6, api.Msg{Last: wordLast(w.Core), Commit: w.Commit})
}

func (w *worded) hear(n int64) {
	if n > wordLast(w.Core) {
		n = wordLast(w.Core)
	}
	if n > w.Commit {
		w.Commit = n
	}
}

func (w *worded) ask()      { w.post(7, w.primary(), api.Msg{Behind: w.Commit}) }
func (w *worded) ok(to int) { w.post(2, to, api.Msg{Last: wordLast(w.Core)}) }

// wordTick: time passes.
func wordTick(c api.Core) (api.Core, []api.Msg, api.Note) {
	w := wordedOf(c)
	if !wordRight(c) {
		return w.Core, nil, api.Note{}
	}
	if w.Left > 0 {
		w.Left--
	}
	if wordLeads(w.Core) {
		if w.Left == 0 {
			w.Left = beatEvery
			w.postAll(3, api.Msg{Last: wordLast(w.Core), Commit: w.Commit})
		}
	} else if w.Left == 0 {
		w.beginChange(w.View + 1)
	} else if w.Status == 1 {
		w.postAll(4, api.Msg{})
		if w.Voted && !wordIsPrimary(w.Core) {
			w.postBallot()
		}
		if w.Best != -1 && w.Best != w.Id {
			w.post(7, w.Best, api.Msg{Behind: w.Commit})
		}
	} else if w.Status == 2 {
		w.ask()
	}
	return w.Core, w.out, w.note
}

// wordMayBe: whether a message is such as one must be.
func wordMayBe(c api.Core, m api.Msg) bool {
	another := m.From >= 0 && m.From < c.Nodes && m.From != c.Id
	views := from(m.View, c.View, greatest) && from(m.Normal, 0, m.View)
	numbers := from(m.Last, 0, greatest) && from(m.Commit, 0, greatest) && from(m.Behind, 0, greatest)
	return m.To == c.Id && another && views && numbers && len(m.Entries) <= maxEntries
}

// wordHandle: a message comes.
func wordHandle(c api.Core, m api.Msg) (api.Core, []api.Msg, api.Note) {
	w := wordedOf(c)
	if wordRight(c) && wordMayBe(c, m) {
		switch m.Kind {
		case 1, 3, 6:
			w.fromPrimary(m)
		case 4:
			w.start(m)
		case 5:
			w.ballot(m)
		case 7:
			w.asked(m)
		case 8:
			w.told(m)
		case 2:
			w.acked(m)
		}
	}
	return w.Core, w.out, w.note
}

func (w *worded) fromPrimary(m api.Msg) {
	if int64(m.From) != m.View%int64(w.Nodes) || m.Kind == 1 && len(m.Entries) != 1 {
		return
	}
	if m.View > w.View || w.Status == 1 {
		if m.View > w.View {
			w.note = api.Note{Kind: 1}
		}
		w.View, w.Status, w.Left = m.View, 2, wordWait(w.Id)
		w.clear()
		w.ask()
		return
	}
	w.Left = wordWait(w.Id)
	if w.Status == 2 {
		w.ask()
		return
	}
	if m.Kind == 1 && m.Last == wordLast(w.Core)+1 && len(w.Entries) < maxEntries {
		w.Entries = append(w.Entries, m.Entries[0])
		w.note = api.Note{Kind: 2}
	}
	w.hear(m.Commit)
	if m.Last > wordLast(w.Core) {
		w.ask()
	} else {
		w.ok(m.From)
	}
}

func (w *worded) start(m api.Msg) {
	if m.View > w.View {
		w.beginChange(m.View)
	}
	if w.Status == 1 {
		w.Starts[m.From] = true
		w.count()
	} else if wordLeads(w.Core) {
		w.post(6, m.From, api.Msg{Last: wordLast(w.Core), Commit: w.Commit})
	}
}

func (w *worded) ballot(m api.Msg) {
	if int64(w.Id) != m.View%int64(w.Nodes) || m.Normal >= m.View {
		return
	}
	led := wordLeads(w.Core)
	if m.View > w.View {
		w.beginChange(m.View)
	}
	if w.Status == 1 {
		w.Starts[m.From] = true
		w.count()
		if w.Status == 1 {
			w.takeVote(api.Vote{Replica: m.From, Normal: m.Normal, Last: m.Last})
		}
	} else if led {
		w.post(6, m.From, api.Msg{Last: wordLast(w.Core), Commit: w.Commit})
	}
}

func (w *worded) asked(m api.Msg) {
	if m.View != w.View || w.Status == 2 || w.Status == 1 && m.From != w.primary() {
		return
	}
	if m.Behind < w.Base {
		w.post(9, m.From, api.Msg{Last: w.Base, Root: w.Root})
	} else if m.Behind <= wordLast(w.Core) {
		w.post(8, m.From, api.Msg{Behind: m.Behind, Commit: w.Commit, Entries: slices.Clone(nth(w.Core, m.Behind))})
	}
}

func (w *worded) told(m api.Msg) {
	n := m.Behind + int64(len(m.Entries))
	if m.View != w.View || m.Behind < w.Base || m.Behind > w.Commit || n < w.Commit || n > greatest || n > w.Base+maxEntries {
		return
	}
	told := m.Entries[w.Commit-m.Behind:]
	if m.From == w.primary() && (w.Status == 2 || w.Status == 0 && n > wordLast(w.Core)) {
		w.setBehind(told)
		w.Status, w.Normal, w.Left = 0, w.View, wordWait(w.Id)
		w.hear(m.Commit)
		w.ok(m.From)
	} else if w.Status == 1 && wordIsPrimary(w.Core) && m.From == w.Best {
		w.leadWith(told)
	}
}

func (w *worded) acked(m api.Msg) {
	if m.View != w.View || !wordLeads(w.Core) || m.Last > wordLast(w.Core) {
		return
	}
	if m.Last > w.Acks[m.From] {
		w.Acks[m.From] = m.Last
	}
	reached := int64(0)
	for _, n := range w.Acks {
		most := 0
		for _, other := range w.Acks {
			if other >= n {
				most++
			}
		}
		if most >= wordQuorum(w.Nodes) && n > reached {
			reached = n
		}
	}
	w.hear(reached)
}

// wordEncodes: whether an operation has bytes.
func wordEncodes(o api.Op) bool {
	return len(o.Path) <= 1100 && len(o.To) <= 1100 && len(o.Data) <= 1100
}

// wordRequest: an entry is to come into the log.
func wordRequest(c api.Core, e api.Entry) (api.Core, []api.Msg, api.Note, api.Errno) {
	w := wordedOf(c)
	if !wordRight(c) || !wordLeads(c) {
		return w.Core, nil, api.Note{}, 6
	}
	if !wordEncodes(e.Op) {
		return w.Core, nil, api.Note{}, 1
	}
	if wordLast(c) >= c.Commit+window || len(c.Entries) == maxEntries || wordLast(c) == greatest {
		return w.Core, nil, api.Note{}, 3
	}
	w.Entries = append(w.Entries, e)
	w.note = api.Note{Kind: 2}
	w.Acks[w.Id] = wordLast(w.Core)
	w.postAll(1, api.Msg{Last: wordLast(w.Core), Commit: w.Commit, Entries: []api.Entry{e}})
	return w.Core, w.out, w.note, 0
}

// wordCompact: entries are covered by a sealed state.
func wordCompact(c api.Core, to int64, root api.Digest) (api.Core, api.Errno) {
	d := own(c)
	if !wordRight(c) || to < c.Base || to > c.Commit {
		return d, 1
	}
	d.Entries = slices.Clone(nth(c, to))
	d.Base, d.Root = to, root
	return d, 0
}

// wordWants: whether a core is to take a sealed state.
func wordWants(c api.Core, m api.Msg) bool {
	if !wordRight(c) || !wordMayBe(c, m) || m.Kind != 9 || m.View != c.View || m.Last <= c.Commit {
		return false
	}
	fromPrimary := int64(m.From) == c.View%int64(c.Nodes)
	return c.Status != 1 && !wordIsPrimary(c) && fromPrimary || c.Status == 1 && wordIsPrimary(c) && m.From == c.Best
}

// wordInstall: a sealed state was taken.
func wordInstall(c api.Core, base int64, root api.Digest) (api.Core, api.Errno) {
	d := own(c)
	if !wordRight(c) || base <= c.Commit || base > greatest {
		return d, 1
	}
	if wordLeads(c) {
		return d, 6
	}
	d.Entries = nil
	if base < wordLast(c) {
		d.Entries = slices.Clone(nth(c, base))
	}
	d.Base, d.Commit, d.Root = base, base, root
	return d, 0
}

// wordKeeps: whether something may be kept.
func wordKeeps(k api.Kept) bool {
	views := from(k.View, 0, greatest) && from(k.Normal, 0, k.View)
	numbers := from(k.Base, 0, greatest) && k.Base+int64(len(k.Entries)) <= greatest
	state := len(k.State) <= 65536 && (k.Base > 0 || k.State == "")
	for _, e := range k.Entries {
		if !wordEncodes(e.Op) {
			return false
		}
	}
	return views && numbers && state && len(k.Entries) <= maxEntries
}

// wordRestart: the core of what was kept.
func wordRestart(id, nodes int, k api.Kept, root api.Digest) (api.Core, api.Errno) {
	if !wordMember(id, nodes) || !wordKeeps(k) {
		return api.Core{}, 1
	}
	c := api.Core{Id: id, Nodes: nodes, View: k.View, Normal: k.Normal, Base: k.Base, Root: root, Entries: slices.Clone(k.Entries), Commit: k.Base, Left: wordWait(id), Best: -1}
	if k.View > k.Normal {
		c.Status = 1
		c.Starts = make([]bool, nodes)
		c.Starts[id] = true
	} else if wordIsPrimary(c) {
		c.Acks = make([]int64, nodes)
		c.Acks[id] = wordLast(c)
		c.Left = beatEvery
	}
	return c, 0
}
