package vr_test

import (
	"testing"

	"veneer/api"
	"veneer/vr"
)

// past is what a core was known to have committed.
type past struct {
	view, normal, commit int64
	committed            map[int64]api.Entry
}

// heldAgainst: a core must be right, must not have fallen behind, and must have all that was committed and isn't sealed.
func (p *past) heldAgainst(t *testing.T, what string, c api.Core) {
	t.Helper()
	if !vr.Check(c) {
		t.Fatalf("P20.5: %s: it isn't right: %s", what, show(c))
	}
	if c.View < p.view || c.Normal < p.normal || c.Commit < p.commit {
		t.Fatalf("P20.5: %s: View %d, Normal %d, Commit %d fell: %s", what, p.view, p.normal, p.commit, show(c))
	}
	p.view, p.normal, p.commit = c.View, c.Normal, c.Commit
	for i, e := range c.Entries[:c.Commit-c.Base] {
		n := c.Base + 1 + int64(i)
		if was, known := p.committed[n]; known && was != e {
			t.Fatalf("P20.5: %s: the entry %d is %s; it was %s", what, n, show(e), show(was))
		}
		p.committed[n] = e
	}
}

// P20.5: behind any ticks, messages and requests, and what is sealed between them, a right core is right, and what is committed stays.
func TestStaysRight(t *testing.T) {
	d := draw(7)
	for range 4000 {
		c := d.core()
		p := past{committed: map[int64]api.Entry{}}
		p.heldAgainst(t, "a drawn core", c)
		for range 30 {
			what := "Handle"
			switch d.Intn(12) {
			case 0, 1:
				what = "Tick"
				c, _, _ = vr.Tick(c)
			case 2, 3:
				what = "Request"
				c, _, _, _ = vr.Request(c, d.entry())
			case 4:
				what = "Compact"
				c, _ = vr.Compact(c, d.near(c.Commit), root)
			case 5:
				what = "Install"
				c, _ = vr.Install(c, d.near(wordLast(c)), root)
			default:
				c, _, _ = vr.Handle(c, d.msg(c))
			}
			p.heldAgainst(t, what, c)
		}
	}
}

// P20.5: at Greatest, and with a full log, too.
func TestStaysRightAtEdges(t *testing.T) {
	d := draw(8)
	for range 4000 {
		c := d.core()
		c.Base = api.Greatest - int64(len(c.Entries)) - d.upTo(1)
		c.Commit = c.Base + d.upTo(int64(len(c.Entries)))
		for i, n := range c.Acks {
			c.Acks[i] = min(n, wordLast(c))
			c.Acks[c.Id] = wordLast(c)
		}
		if c.Status == api.StatusNormal {
			c.View = api.Greatest - int64(c.Nodes) + c.View%int64(c.Nodes) - (api.Greatest % int64(c.Nodes))
			c.Normal = c.View
		}
		if !wordRight(c) {
			t.Fatalf("the test's own core isn't right: %s", show(c))
		}
		p := past{committed: map[int64]api.Entry{}}
		for range 20 {
			p.heldAgainst(t, "at the edge", c)
			switch d.Intn(6) {
			case 0:
				c, _, _ = vr.Tick(c)
			case 1:
				c, _, _, _ = vr.Request(c, d.entry())
			case 2:
				c, _ = vr.Install(c, min(api.Greatest, d.near(wordLast(c))), root)
			default:
				c, _, _ = vr.Handle(c, d.msg(c))
			}
		}
	}
}
