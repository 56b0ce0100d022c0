package vr_test

import (
	"strings"
	"testing"

	"veneer/api"
	"veneer/vr"
)

// requests: a request must come to this.
func requests(t *testing.T, what string, c api.Core, e api.Entry, want reached, wrong api.Errno) {
	t.Helper()
	var got reached
	var answer api.Errno
	got.core, got.out, got.note, answer = vr.Request(own(c), e)
	mustBe(t, "P20.3: Request: "+what, answer, wrong)
	comesTo(t, "P20.3: Request: "+what, got, want)
}

// isRefused: a request must have this error, and the core be as it was.
func isRefused(t *testing.T, what string, c api.Core, e api.Entry, wrong api.Errno) {
	t.Helper()
	requests(t, what, c, e, reached{core: c}, wrong)
}

// isTaken: a request must come behind the others.
func isTaken(t *testing.T, what string, c api.Core, e api.Entry) {
	t.Helper()
	want := reached{note: api.Note{Kind: api.NoteEntry}}
	want.core = but(c, func(c *api.Core) {
		c.Entries = append(c.Entries, e)
		c.Acks[c.Id] = c.Base + int64(len(c.Entries))
	})
	want.out = all(c, api.Msg{Kind: api.Prepare, From: c.Id, View: c.View, Last: wordLast(want.core), Commit: c.Commit, Entries: []api.Entry{e}})
	requests(t, what, c, e, want, api.OK)
}

// P20.3: a primary takes requests, of any client, number and operation that has bytes.
func TestRequest(t *testing.T) {
	isTaken(t, "a primary", primary(), entry(7))
	for _, e := range []api.Entry{{}, {Client: -1, Number: -9}, {Client: 1 << 60, Number: 1 << 62, Op: api.Op{Kind: 99, At: -1}}, {Op: api.Op{Path: strings.Repeat("p", api.MaxField), To: strings.Repeat("t", api.MaxField), Data: strings.Repeat("d", api.MaxField)}}} {
		isTaken(t, "an odd entry", primary(), e)
	}
	for _, nodes := range []int{3, 5, 7} {
		for id := range nodes {
			c := api.Core{Id: id, Nodes: nodes, View: int64(id), Normal: int64(id), Left: 1, Acks: make([]int64, nodes), Best: -1}
			isTaken(t, "one of more", c, entry(1))
		}
	}
}

// P20.3: one who doesn't lead takes none; that comes ahead of the other errors.
func TestRequestToNobody(t *testing.T) {
	eachNamed(func(name string, c api.Core) {
		if name == "primary" {
			return
		}
		isRefused(t, name, c, entry(7), api.ErrState)
		isRefused(t, name+", an entry too long", c, tooLong(), api.ErrState)
		full := but(c, func(c *api.Core) { c.Entries = entries(3, 34) })
		isRefused(t, name+", full", full, entry(7), api.ErrState)
	})
	for _, edit := range []func(c *api.Core){
		func(c *api.Core) { c.Left = -1 },
		func(c *api.Core) { c.Best = 0 },
		func(c *api.Core) { c.Nodes = 4 },
		func(c *api.Core) { c.Entries, c.Acks[1] = entries(3, 35), 35 },
	} {
		isRefused(t, "a primary that isn't right", but(primary(), edit), entry(7), api.ErrState)
		isRefused(t, "a primary that isn't right, an entry too long", but(primary(), edit), tooLong(), api.ErrState)
	}
	isRefused(t, "the zero core", api.Core{}, entry(1), api.ErrState)
}

// P20.3: an operation that has no bytes: each of its texts; ahead of a log that is full.
func TestRequestTooLong(t *testing.T) {
	long := strings.Repeat("x", api.MaxField+1)
	for _, o := range []api.Op{{Path: long}, {To: long}, {Data: long}} {
		isRefused(t, "too long", primary(), api.Entry{Op: o}, api.ErrArg)
	}
	full := but(primary(), func(c *api.Core) { c.Entries, c.Acks[1] = entries(3, 34), 34 })
	isRefused(t, "too long, full", full, tooLong(), api.ErrArg)
	isRefused(t, "full", full, entry(35), api.ErrFull)
}

// P20.3: Window operations may be under way.
func TestRequestWindow(t *testing.T) {
	for count := range int64(11) {
		c := but(primary(), func(c *api.Core) { c.Commit, c.Entries, c.Acks[1] = 4, entries(3, 4+count), 4+count })
		if count >= 8 {
			isRefused(t, "past the window", c, entry(7), api.ErrFull)
		} else {
			c.Acks[0] = min(c.Acks[0], 4+count)
			isTaken(t, "within the window", c, entry(7))
		}
	}
}

// P20.3: MaxEntries entries.
func TestRequestEntries(t *testing.T) {
	for count := int64(30); count <= 32; count++ {
		c := but(primary(), func(c *api.Core) { c.Commit, c.Entries, c.Acks[1] = 2+count, entries(3, 2+count), 2+count })
		if count == 32 {
			isRefused(t, "32 entries", c, entry(7), api.ErrFull)
		} else {
			isTaken(t, "fewer than 32 entries", c, entry(7))
		}
	}
}

// P20.3: the last number at Greatest.
func TestRequestAtGreatest(t *testing.T) {
	for below := range int64(3) {
		base := api.Greatest - 4 - below
		c := but(primary(), func(c *api.Core) { c.Base, c.Commit, c.Acks[1] = base, base+4, base+4 })
		if below == 0 {
			isRefused(t, "at Greatest", c, entry(7), api.ErrFull)
			isRefused(t, "at Greatest, too long", c, tooLong(), api.ErrArg)
		} else {
			isTaken(t, "close to Greatest", c, entry(7))
		}
	}
}

// P20.3: requests of drawn cores are what the chapter's words say.
func TestRequestDrawn(t *testing.T) {
	d := draw(5)
	seen := map[api.Errno]int{}
	for range 80000 {
		c := d.core()
		if d.Intn(20) == 0 {
			d.harm(&c)
		}
		e := d.entry()
		var want reached
		var wrong api.Errno
		want.core, want.out, want.note, wrong = wordRequest(c, e)
		seen[wrong]++
		requests(t, "a drawn core", c, e, want, wrong)
		if t.Failed() {
			t.Fatalf("it is %s", show(c))
		}
	}
	for _, wrong := range []api.Errno{api.OK, api.ErrState, api.ErrArg, api.ErrFull} {
		if seen[wrong] < 300 {
			t.Errorf("only %d drawn requests have the answer %d", seen[wrong], wrong)
		}
	}
}
