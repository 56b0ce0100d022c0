package vr_test

import (
	"crypto/sha256"
	"encoding/binary"
	"slices"
	"testing"

	"veneer/api"
	"veneer/journal"
	"veneer/vr"
)

// member is a replica with what it wrote: that lasts, the core doesn't.
type member struct {
	core  api.Core
	kept  api.Kept
	root  api.Digest
	isCut bool // nothing comes to it, or from it
}

// group is some replicas, what is on its way between them, and what any of them had for committed.
type group struct {
	t       *testing.T
	d       drawer
	members []*member
	flying  []api.Msg
	agreed  []api.Entry            // of the numbers from 1 on
	sealed  map[api.Digest][]int64 // what a sealed state covers, by the entries' numbers
	asked   int64
	isCalm  bool // little is lost, nobody is cut off or begins anew by itself
	did     map[string]int
}

func groupOf(t *testing.T, nodes int, seed int64) *group {
	g := &group{t: t, d: draw(seed), sealed: map[api.Digest][]int64{{}: nil}, did: map[string]int{}}
	for id := range nodes {
		c, e := vr.New(id, nodes)
		mustBe(t, "P20.1: New", e, api.OK)
		g.members = append(g.members, &member{core: c})
	}
	return g
}

// write: what a note says of a core.
func write(k api.Kept, c api.Core, note api.Note) api.Kept {
	switch note.Kind {
	case api.NoteView:
		k.View = c.View
	case api.NoteEntry:
		k.Entries = append(slices.Clone(k.Entries), c.Entries[len(c.Entries)-1])
	case api.NoteAdopt:
		k.View, k.Normal = c.View, c.View
		k.Entries = slices.Concat(k.Entries[:note.Behind-k.Base], c.Entries[note.Behind-c.Base:])
	}
	return k
}

// step: a member comes to a core: it writes, then sends; the power may go ahead of that, or between the two.
func (g *group) step(id int, c api.Core, out []api.Msg, note api.Note) {
	m := g.members[id]
	power := g.d.Intn(400)
	if g.isCalm {
		power = 2
	}
	if power == 0 {
		g.restart(id)
		return
	}
	m.kept = write(m.kept, c, note)
	if power == 1 {
		g.restart(id)
		return
	}
	if !m.core.Voted && c.Voted || c.View > m.core.View {
		g.did["change"]++
	}
	m.core = c
	if m.kept.View != c.View || m.kept.Normal != c.Normal || m.kept.Base != c.Base || !slices.Equal(m.kept.Entries, c.Entries) {
		g.t.Fatalf("P20.6: what is written isn't what there is: %s; %s", show(m.kept), show(c))
	}
	mustBe(g.t, "P20.6: journal.Check of what is written", journal.Check(m.kept), api.OK)
	g.agree(c)
	for _, o := range out {
		if !m.isCut && !g.members[o.To].isCut {
			g.flying = append(g.flying, o)
		}
	}
}

// agree: what a core has for committed must be what any other one ever had.
func (g *group) agree(c api.Core) {
	g.covers(c)
	for i, e := range c.Entries[:c.Commit-c.Base] {
		at := int(c.Base) + i
		if at > len(g.agreed) {
			g.t.Fatalf("P20.6: the entry %d is committed ahead of the one below it", at+1)
		}
		if at == len(g.agreed) {
			g.agreed = append(g.agreed, e)
		}
		if g.agreed[at] != e {
			g.t.Fatalf("P20.6: two entries of the number %d are committed: %s, %s", at+1, show(e), show(g.agreed[at]))
		}
	}
}

// covers: the sealed state that a core begins with must be one of what all agreed on, up to its Base.
func (g *group) covers(c api.Core) {
	covered, known := g.sealed[c.Root]
	if !known || int64(len(covered)) != c.Base || len(covered) > len(g.agreed) {
		g.t.Fatalf("P20.6: a sealed state of %d entries, %d of which are known, as the Base %d", len(covered), len(g.agreed), c.Base)
	}
	for i, n := range covered {
		if g.agreed[i].Number != n {
			g.t.Fatalf("P20.6: the sealed state has the entry %d as number %d; want %d", n, i+1, g.agreed[i].Number)
		}
	}
}

// restart: a member begins anew with what it wrote.
func (g *group) restart(id int) {
	m := g.members[id]
	c, e := vr.Restart(id, len(g.members), m.kept, m.root)
	mustBe(g.t, "P20.1: Restart", e, api.OK)
	m.core = c
	g.did["restart"]++
	g.agree(c)
}

// tick: time passes at a member.
func (g *group) tick(id int) {
	c, out, note := vr.Tick(g.members[id].core)
	g.step(id, c, out, note)
}

// deliver: a message comes, and is gone from the way.
func (g *group) deliver(at int) {
	m := g.flying[at]
	g.flying = slices.Delete(g.flying, at, at+1)
	g.hand(m)
}

// hand: a member is handed a message, if it isn't cut off: a sealed state that it wants, it takes at once.
func (g *group) hand(m api.Msg) {
	to := g.members[m.To]
	if to.isCut {
		return
	}
	if m.Kind == api.Offer {
		if vr.Wants(to.core, m) {
			g.install(to, m)
		}
		return
	}
	c, out, note := vr.Handle(to.core, m)
	g.step(m.To, c, out, note)
}

// install: a member takes a sealed state, and lays what it keeps anew.
func (g *group) install(m *member, o api.Msg) {
	c, e := vr.Install(m.core, o.Last, o.Root)
	mustBe(g.t, "P20.4: Install of what is wanted", e, api.OK)
	m.lay(c)
	g.did["install"]++
	g.agree(c)
}

// lay: what a member keeps is all of its core.
func (m *member) lay(c api.Core) {
	m.core, m.root = c, c.Root
	m.kept = api.Kept{View: c.View, Normal: c.Normal, Base: c.Base, Entries: slices.Clone(c.Entries)}
}

// compact: a member seals what is committed, up to a number.
func (g *group) compact(id int, to int64) {
	m := g.members[id]
	covered := slices.Clone(g.sealed[m.core.Root])
	for _, e := range m.core.Entries[:to-m.core.Base] {
		covered = append(covered, e.Number)
	}
	sum := sha256.New()
	for _, n := range covered {
		sum.Write(binary.AppendVarint(nil, n))
	}
	root := api.Digest(sum.Sum(nil))
	if len(covered) == 0 {
		root = api.Digest{}
	}
	g.sealed[root] = covered
	c, e := vr.Compact(m.core, to, root)
	mustBe(g.t, "P20.4: Compact", e, api.OK)
	m.lay(c)
	g.agree(c)
}

// request: a member is asked for a new entry.
func (g *group) request(id int) {
	g.asked++
	c, out, note, e := vr.Request(g.members[id].core, entry(g.asked))
	if e == api.OK {
		g.step(id, c, out, note)
	}
}

// act: something happens.
func (g *group) act() {
	id := g.d.Intn(len(g.members))
	at := g.d.Intn(len(g.flying) + 1)
	n := g.d.Intn(1000)
	switch {
	case n < 80:
		g.tick(id)
	case n < 220:
		g.request(id)
	case n < 260:
		c := g.members[id].core
		g.compact(id, of(g.d, c.Commit, c.Base+g.d.upTo(c.Commit-c.Base)))
	case at == len(g.flying):
		g.tick(id)
	case n < 600: // the first one that is on its way
		g.deliver(0)
	case n < 900: // late, or ahead of others
		g.deliver(at)
	case g.isCalm:
		g.deliver(0)
	default:
		g.disturb(n, id, at)
	}
	if len(g.flying) > 60 {
		g.flying = slices.Delete(g.flying, 0, g.d.Intn(40))
	}
}

// disturb: something happens that hinders.
func (g *group) disturb(n, id, at int) {
	switch {
	case n < 903:
		g.restart(id)
	case n < 910:
		g.members[id].isCut = g.d.Intn(2) == 0
	case n < 950: // lost
		g.flying = slices.Delete(g.flying, at, at+1)
	default: // doubled: it comes now, and once more
		g.hand(g.flying[at])
	}
}

// heal: nothing hinders any more, and all that is sent comes; each one must come to the same log.
func (g *group) heal() {
	g.isCalm = true
	for _, m := range g.members {
		m.isCut = false
	}
	for range 60 {
		for id := range g.members {
			g.tick(id)
		}
		for len(g.flying) > 0 {
			g.deliver(0)
		}
		for id, m := range g.members { // lest a full log has no room for what is told
			g.compact(id, m.core.Commit)
		}
	}
	first := g.members[0].core
	for _, m := range g.members {
		if m.core.View != first.View || m.core.Status != api.StatusNormal || m.core.Commit != first.Commit || wordLast(m.core) != wordLast(first) {
			g.t.Errorf("they don't come to one log: %s; %s", show(m.core), show(first))
		}
	}
}

// P20.6: no two replicas have unlike entries of one number that both have for committed, whatever is lost, doubled or late, and whoever begins anew.
func TestAgree(t *testing.T) {
	for _, nodes := range []int{3, 5, 7} {
		did := map[string]int{}
		agreed := 0
		for seed := range int64(120) {
			g := groupOf(t, nodes, seed)
			g.isCalm = seed%4 == 0
			for range 3000 {
				g.act()
			}
			g.heal()
			agreed += len(g.agreed)
			for what, n := range g.did {
				did[what] += n
			}
			if t.Failed() {
				return
			}
		}
		t.Logf("%d replicas: %d entries, %v", nodes, agreed, did)
		if agreed < 5000 || did["change"] < 3000 || did["restart"] < 1000 || did["install"] < 250 {
			t.Errorf("%d replicas: %d entries, %v: too little happened", nodes, agreed, did)
		}
	}
}
