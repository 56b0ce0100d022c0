package vr_test

import (
	"math"
	"math/rand"
	"strings"

	"veneer/api"
)

// drawer draws cores and messages, always the same ones.
type drawer struct{ *rand.Rand }

func draw(seed int64) drawer { return drawer{rand.New(rand.NewSource(seed))} }

// of: one of some.
func of[T any](d drawer, list ...T) T { return list[d.Intn(len(list))] }

// upTo: a number from 0 to another one.
func (d drawer) upTo(n int64) int64 {
	if n <= 0 {
		return 0
	}
	return d.Int63n(min(n, math.MaxInt64-1) + 1)
}

// near: a number close to another one.
func (d drawer) near(n int64) int64 { return n + d.Int63n(5) - 2 }

// entry: one of few.
func (d drawer) entry() api.Entry {
	e := entry(d.Int63n(6))
	if d.Intn(30) == 0 {
		e.Op.Data = strings.Repeat("y", api.MaxField+d.Intn(2))
	}
	return e
}

// entries: so many.
func (d drawer) entries(count int) []api.Entry {
	var list []api.Entry
	for range count {
		list = append(list, d.entry())
	}
	return list
}

// core: one that is right.
func (d drawer) core() api.Core {
	c := api.Core{Nodes: of(d, 3, 3, 3, 5, 7), Best: -1}
	c.Id = d.Intn(c.Nodes)
	c.View = of(d, d.upTo(9), d.upTo(9), d.upTo(9), api.Greatest-d.upTo(7))
	c.Base = of(d, 0, d.upTo(4), d.upTo(4), d.upTo(40))
	c.Entries = d.entries(of(d, 0, d.Intn(5), d.Intn(5), d.Intn(12), 30+d.Intn(3)))
	if d.Intn(12) == 0 {
		c.Base = api.Greatest - int64(len(c.Entries)) - int64(d.Intn(3))
	}
	c.Commit = c.Base + d.upTo(int64(len(c.Entries)))
	c.Root = api.Digest{byte(d.Intn(3))}
	c.Left = of(d, 0, 1, 2, 1+d.Intn(20), 1000)
	d.status(&c)
	return c
}

// status: what a core's status asks for.
func (d drawer) status(c *api.Core) {
	if c.View > 0 {
		c.Status = d.Intn(3)
	}
	leader := int(c.View % int64(c.Nodes))
	switch c.Status {
	case api.StatusNormal:
		c.Normal = c.View
		if d.Intn(3) > 0 {
			c.Id = leader
		}
		if c.Id == leader {
			for range c.Nodes {
				c.Acks = append(c.Acks, of(d, 0, d.upTo(wordLast(*c)), wordLast(*c)))
			}
			c.Acks[c.Id] = wordLast(*c)
		}
	case api.StatusChange:
		c.Normal = d.upTo(c.View - 1)
		if d.Intn(2) > 0 {
			c.Id = leader
		}
		for range c.Nodes {
			c.Starts = append(c.Starts, d.Intn(3) == 0)
		}
		c.Starts[c.Id] = true
		c.Voted = d.Intn(2) == 0
		if c.Id == leader {
			d.votes(c)
			c.Best = of(d, -1, -1, d.Intn(c.Nodes))
		}
	case api.StatusLag:
		c.Normal = d.upTo(c.View - 1)
		if c.Id == leader {
			c.Id = (leader + 1) % c.Nodes
		}
	}
}

// votes: some, of unlike replicas.
func (d drawer) votes(c *api.Core) {
	for _, id := range d.Perm(c.Nodes)[:d.Intn(c.Nodes+1)] {
		normal := min(c.View-1, of(d, c.Normal, d.upTo(c.View-1)))
		c.Votes = append(c.Votes, vote(id, normal, min(api.Greatest, of(d, wordLast(*c), max(0, d.near(wordLast(*c)))))))
	}
}

// harm: a field becomes another one.
func (d drawer) harm(c *api.Core) {
	odd := of(d, -1, 0, 1, d.near(c.Commit), d.near(wordLast(*c)), d.near(c.Base), d.near(c.View), d.near(c.Normal), api.Greatest, api.Greatest+1, math.MaxInt64, math.MinInt64)
	switch d.Intn(14) {
	case 0:
		c.Id = of(d, -1, 0, 1, c.Nodes, c.Nodes-1, int(odd))
	case 1:
		c.Nodes = of(d, 3, 5, 7, 4, int(odd))
	case 2:
		c.View = odd
	case 3:
		c.Normal = odd
	case 4:
		c.Status = of(d, 0, 1, 2, 3, -1)
	case 5:
		c.Base = odd
	case 6:
		c.Entries = d.entries(of(d, 0, len(c.Entries)+1, 32, 33))
	case 7:
		c.Commit = odd
	case 8:
		c.Left = of(d, -1, 0, 1000, 1001, int(odd))
	case 9:
		c.Voted = !c.Voted
	case 10:
		c.Best = of(d, -2, -1, 0, c.Nodes-1, c.Nodes, int(odd))
	case 11:
		d.harmAcks(c, odd)
	case 12:
		d.harmStarts(c)
	case 13:
		d.harmVotes(c, odd)
	}
}

func (d drawer) harmAcks(c *api.Core, odd int64) {
	if len(c.Acks) > 0 && d.Intn(3) > 0 {
		c.Acks[d.Intn(len(c.Acks))] = odd
		return
	}
	c.Acks = append(c.Acks, odd)
}

func (d drawer) harmStarts(c *api.Core) {
	if len(c.Starts) > 0 && d.Intn(3) > 0 {
		at := d.Intn(len(c.Starts))
		c.Starts[at] = !c.Starts[at]
		return
	}
	c.Starts = append(c.Starts, true)
}

func (d drawer) harmVotes(c *api.Core, odd int64) {
	if len(c.Votes) == 0 || d.Intn(3) == 0 {
		c.Votes = append(c.Votes, vote(d.Intn(4), 0, 0))
		return
	}
	v := &c.Votes[d.Intn(len(c.Votes))]
	switch d.Intn(3) {
	case 0:
		v.Replica = of(d, int(odd), d.Intn(8))
	case 1:
		v.Normal = odd
	case 2:
		v.Last = odd
	}
}

// msg: a message that may do something to a core, or not.
func (d drawer) msg(c api.Core) api.Msg {
	m := api.Msg{Kind: of(d, 1, 1, 2, 2, 2, 3, 4, 5, 5, 6, 7, 7, 8, 8, 8, 9, 1+d.Intn(14)), To: c.Id, From: d.Intn(max(c.Nodes, 1)), View: c.View}
	if d.Intn(3) == 0 {
		m.View = min(api.Greatest, c.View+d.upTo(4))
	}
	if m.Kind == api.Prepare || m.Kind == api.Beat || m.Kind == api.Begun || m.Kind == api.Tell && c.Status != api.StatusChange {
		m.From = of(d, m.From, int(m.View%int64(max(c.Nodes, 1))))
	}
	if m.Kind == api.Tell && c.Status == api.StatusChange && c.Best >= 0 {
		m.From = c.Best
	}
	numbers := func() int64 {
		return min(api.Greatest, max(0, of(d, d.near(c.Base), d.near(c.Commit), d.near(wordLast(c)), wordLast(c)+1, c.Commit, d.upTo(40))))
	}
	m.Last, m.Commit, m.Behind = numbers(), numbers(), numbers()
	m.Normal = max(0, min(m.View, of(d, d.upTo(m.View), m.View, m.View-1, c.Normal)))
	d.fill(c, &m)
	if d.Intn(6) == 0 {
		d.spoil(c, &m)
	}
	return m
}

// fill: what a message tells beside numbers.
func (d drawer) fill(c api.Core, m *api.Msg) {
	switch m.Kind {
	case api.Prepare:
		m.Entries = d.entries(of(d, 1, 1, 1, 1, 0, 2))
	case api.Ok:
		m.Last = of(d, m.Last, d.upTo(wordLast(c)), wordLast(c))
	case api.Tell:
		if d.Intn(3) > 0 {
			m.Behind = c.Base + d.upTo(c.Commit-c.Base)
		}
		most := of(d, wordLast(c)+2, c.Commit+1, c.Base+maxEntries+1, api.Greatest+1) - m.Behind
		m.Entries = d.entries(int(max(0, min(32, most-d.upTo(3)))))
	default:
		m.Entries = d.entries(of(d, 0, 0, d.Intn(3), 32))
	}
	m.Root = api.Digest{byte(d.Intn(3))}
	m.Data = of(d, "", "", "x")
}

// spoil: a field of a message is another one.
func (d drawer) spoil(c api.Core, m *api.Msg) {
	odd := of[int64](d, -1, 0, api.Greatest, api.Greatest+1, math.MaxInt64, math.MinInt64)
	switch d.Intn(8) {
	case 0:
		m.To = of(d, -1, c.Nodes, d.Intn(8))
	case 1:
		m.From = of(d, -1, c.Id, c.Nodes, int(odd))
	case 2:
		m.View = of(d, c.View-1, odd)
	case 3:
		m.Normal = of(d, m.View+1, odd)
	case 4:
		m.Last = odd
	case 5:
		m.Commit = odd
	case 6:
		m.Behind = odd
	case 7:
		m.Entries = d.entries(33)
	}
}
