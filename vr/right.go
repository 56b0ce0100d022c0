package vr

import (
	"cmp"

	"veneer/api"
	"veneer/view"
)

// mostLeft: no core that is right waits for more ticks.
const mostLeft = 1000

// last: the last entry's number, of a core that is right.
func last(c api.Core) int64 { return c.Base + int64(len(c.Entries)) }

// primary: who leads a core's view.
func primary(c api.Core) int { return view.Primary(c.View, c.Nodes) }

// leads: whether a core leads its view, if it is right.
func leads(c api.Core) bool { return c.Status == api.StatusNormal && c.Id == primary(c) }

// isWithin: whether a number is neither below the least one nor above the greatest one.
func isWithin[N cmp.Ordered](n, least, greatest N) bool { return least <= n && n <= greatest }

// Check: whether a core is right.
func Check(c api.Core) bool {
	return isMember(c.Id, c.Nodes) && hasRightNumbers(c) && hasRightStatus(c)
}

// isMember: whether there may be so many replicas, with this one among them.
func isMember(id, nodes int) bool {
	switch nodes {
	case 3, 5, 7:
		return isWithin(id, 0, nodes-1)
	}
	return false
}

// hasRightNumbers: whether the numbers that a core has in each status are right.
func hasRightNumbers(c api.Core) bool {
	if len(c.Entries) > api.MaxEntries || !isWithin(c.Base, 0, api.Greatest-int64(len(c.Entries))) {
		return false // asked so, as the last number may not fit
	}
	views := isWithin(c.View, 0, api.Greatest) && isWithin(c.Normal, 0, c.View)
	return views && isWithin(c.Commit, c.Base, last(c)) && isWithin(c.Left, 0, mostLeft)
}

// hasRightStatus: whether a core has what its status asks for, and nothing that belongs to another one.
func hasRightStatus(c api.Core) bool {
	switch c.Status {
	case api.StatusNormal:
		return c.Normal == c.View && hasRightAcks(c) && hasNoChange(c)
	case api.StatusChange:
		return c.Normal < c.View && len(c.Acks) == 0 && hasRightStarts(c) && hasRightVotes(c)
	case api.StatusLag:
		return c.Normal < c.View && len(c.Acks) == 0 && hasNoChange(c) && c.Id != primary(c)
	}
	return false
}

// hasNoChange: whether a core has nothing of a change of views.
func hasNoChange(c api.Core) bool {
	return len(c.Starts) == 0 && len(c.Votes) == 0 && !c.Voted && c.Best == -1
}

// hasRightAcks: whether the acks are those of a primary, or none of another one.
func hasRightAcks(c api.Core) bool {
	if c.Id != primary(c) {
		return len(c.Acks) == 0
	}
	if len(c.Acks) != c.Nodes {
		return false
	}
	for _, n := range c.Acks {
		if !isWithin(n, 0, last(c)) {
			return false
		}
	}
	return c.Acks[c.Id] == last(c)
}

// hasRightStarts: whether there is a flag of each replica, its own set.
func hasRightStarts(c api.Core) bool { return len(c.Starts) == c.Nodes && c.Starts[c.Id] }

// hasRightVotes: whether the votes, and whose log is the best, are those of one who is to lead, or none of another one.
func hasRightVotes(c api.Core) bool {
	if c.Id != primary(c) {
		return len(c.Votes) == 0 && c.Best == -1
	}
	var voted [api.MaxReplica]bool
	for _, v := range c.Votes {
		if !isWithin(v.Replica, 0, c.Nodes-1) || !isWithin(v.Normal, 0, c.View-1) || !isWithin(v.Last, 0, api.Greatest) || voted[v.Replica] {
			return false
		}
		voted[v.Replica] = true
	}
	return isWithin(c.Best, -1, c.Nodes-1)
}

// concerns: whether a message is one that may do something to a core.
func concerns(c api.Core, m api.Msg) bool {
	if !Check(c) || m.To != c.Id || m.From == c.Id || !isWithin(m.From, 0, c.Nodes-1) {
		return false
	}
	if !isWithin(m.View, c.View, api.Greatest) || !isWithin(m.Normal, 0, m.View) || len(m.Entries) > api.MaxEntries {
		return false
	}
	return isWithin(m.Last, 0, api.Greatest) && isWithin(m.Commit, 0, api.Greatest) && isWithin(m.Behind, 0, api.Greatest)
}
