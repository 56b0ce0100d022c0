package vr_test

import (
	"math"
	"testing"

	"veneer/api"
	"veneer/vr"
)

// said: a message of the primary 1 of the view 4 to the replica 2, of an entry, if it is a Prepare.
func said(kind int, last, commit int64) api.Msg {
	m := api.Msg{Kind: kind, From: 1, To: 2, View: 4, Last: last, Commit: commit}
	if kind == api.Prepare {
		m.Entries = entries(last, last)
	}
	return m
}

// fromPrimaries: the kinds that a primary sends to all.
var fromPrimaries = []int{api.Prepare, api.Beat, api.Begun}

// The answers of the replica 2 in the view 4.
func oks(last int64) []api.Msg { return []api.Msg{{Kind: api.Ok, From: 2, To: 1, View: 4, Last: last}} }
func asks(behind int64) []api.Msg {
	return []api.Msg{{Kind: api.Ask, From: 2, To: 1, View: 4, Behind: behind}}
}

// P20.2: a Prepare's entry comes behind the others, if it is the next one.
func TestPrepare(t *testing.T) {
	for last := int64(0); last < 10; last++ {
		c := backup()
		want := reached{core: but(c, func(c *api.Core) { c.Left = 12 }), out: oks(6)}
		if last == 7 {
			want.core.Entries = entries(3, 7)
			want.out, want.note = oks(7), api.Note{Kind: api.NoteEntry}
		}
		if last > 7 {
			want.out = asks(4)
		}
		handles(t, "a Prepare", c, said(api.Prepare, last, 4), want)
	}
}

// P20.2: what is committed is heard of, up to the last number, with the entry that came.
func TestHear(t *testing.T) {
	for _, kind := range fromPrimaries {
		for commit := range int64(10) {
			for last := int64(5); last < 9; last++ {
				c := backup()
				log := int64(6)
				want := reached{core: but(c, func(c *api.Core) { c.Left = 12 })}
				if kind == api.Prepare && last == 7 {
					log = 7
					want.core.Entries = entries(3, 7)
					want.note = api.Note{Kind: api.NoteEntry}
				}
				want.core.Commit = max(4, min(commit, log))
				want.out = oks(log)
				if last > log {
					want.out = asks(want.core.Commit)
				}
				handles(t, "a commit", c, said(kind, last, commit), want)
			}
		}
	}
}

// P20.2: there is room for MaxEntries entries.
func TestPrepareFull(t *testing.T) {
	for count := int64(30); count <= 32; count++ {
		c := but(backup(), func(c *api.Core) { c.Base, c.Commit, c.Entries = 2, 5, entries(3, 2+count) })
		want := reached{core: but(c, func(c *api.Core) { c.Left, c.Commit = 12, 6 }), out: asks(6)}
		if count < 32 {
			want.core.Entries = entries(3, 3+count)
			want.out, want.note = oks(3+count), api.Note{Kind: api.NoteEntry}
		}
		handles(t, "a full log", c, said(api.Prepare, 3+count, 6), want)
	}
}

// P20.2: the last number may be Greatest, and no more.
func TestPrepareAtGreatest(t *testing.T) {
	for below := range int64(3) {
		base := api.Greatest - 4 - below
		c := but(backup(), func(c *api.Core) { c.Base, c.Commit, c.Entries = base, base, entries(1, 4) })
		m := said(api.Prepare, base+5, 0)
		if below == 0 {
			stays(t, "past Greatest", c, m)
			continue
		}
		want := reached{core: but(c, func(c *api.Core) { c.Left = 12; c.Entries = append(c.Entries, m.Entries[0]) }), out: oks(base + 5), note: api.Note{Kind: api.NoteEntry}}
		handles(t, "close to Greatest", c, m, want)
	}
}

// P20.2: a Prepare has one entry; of Beat and Begun they count for nothing.
func TestHowManyEntries(t *testing.T) {
	for _, c := range []api.Core{backup(), lagging(), changing()} {
		for _, count := range []int64{0, 1, 2, 3, 32, 33} {
			for _, kind := range fromPrimaries {
				for view := int64(4); view <= 7; view += 3 {
					m := other(said(kind, 7, 5), func(m *api.Msg) { m.View = view; m.Entries = entries(7, 6+count) })
					if count == 33 || kind == api.Prepare && count != 1 {
						stays(t, "another number of entries", c, m)
						continue
					}
					var want reached
					want.core, want.out, want.note = wordHandle(c, m)
					if same(want.core, c) {
						t.Fatalf("it should do something: %s", show(m))
					}
					handles(t, "a number of entries", c, m, want)
				}
			}
		}
	}
}

// P20.2: a view that is normal without this one, which lags from then on, and writes that, if the view rose.
func TestLag(t *testing.T) {
	eachNamed(func(name string, c api.Core) {
		for _, kind := range fromPrimaries {
			for view := int64(4); view <= 8; view++ {
				from := int(view % 3)
				if from == c.Id || view == 4 && c.Status != api.StatusChange {
					continue
				}
				want := reached{core: but(c, func(c *api.Core) {
					c.View, c.Status, c.Left = view, api.StatusLag, 8+2*c.Id
					c.Acks, c.Starts, c.Votes, c.Voted, c.Best = nil, nil, nil, false, -1
				})}
				want.out = []api.Msg{{Kind: api.Ask, From: c.Id, To: from, View: view, Behind: 4}}
				if view > 4 {
					want.note.Kind = api.NoteView
				}
				m := other(said(kind, 7, 6), func(m *api.Msg) { m.From, m.To, m.View = from, c.Id, view })
				handles(t, name+" lags", c, m, want)
			}
		}
	})
}

// P20.2: one that lags asks again, and takes nothing of what it is told so.
func TestLagging(t *testing.T) {
	for _, kind := range fromPrimaries {
		for last := range int64(10) {
			c := lagging()
			want := reached{core: but(c, func(c *api.Core) { c.Left = 12 }), out: asks(4)}
			handles(t, "lagging", c, said(kind, last, last), want)
		}
	}
}

// P20.2: only the primary of the message's view says so.
func TestFromThePrimary(t *testing.T) {
	eachNamed(func(name string, c api.Core) {
		for _, kind := range fromPrimaries {
			for view := int64(4); view < 10; view++ {
				for from := range 3 {
					if int64(from) == view%3 || from == c.Id {
						continue
					}
					m := other(said(kind, 7, 5), func(m *api.Msg) { m.From, m.To, m.View = from, c.Id, view })
					stays(t, name+", from another one than the primary", c, m)
				}
			}
		}
	})
}

// P20.2: the primary itself, which no other one can be.
func TestPrimaryHearsNone(t *testing.T) {
	for _, kind := range fromPrimaries {
		for _, from := range []int{0, 2} {
			m := other(said(kind, 7, 5), func(m *api.Msg) { m.From, m.To = from, 1 })
			stays(t, "to the primary", primary(), m)
			stays(t, "to who is to lead", electing(), m)
		}
	}
}

// P20.2: the conditions that each message must meet: just met, it does something; just missed, nothing.
func TestMustBe(t *testing.T) {
	for _, kind := range fromPrimaries {
		m := said(kind, 7, 5)
		for _, c := range []api.Core{backup(), lagging(), changing()} {
			for _, met := range []func(m *api.Msg){
				func(m *api.Msg) {},
				func(m *api.Msg) { m.Normal = 4 },
				func(m *api.Msg) { m.Last = 0 },
				func(m *api.Msg) { m.Last = api.Greatest },
				func(m *api.Msg) { m.Commit = 0 },
				func(m *api.Msg) { m.Commit = api.Greatest },
				func(m *api.Msg) { m.Behind = api.Greatest },
				func(m *api.Msg) { m.View, m.Normal = api.Greatest, api.Greatest },
				func(m *api.Msg) { m.Root, m.Data, m.Result = api.Digest{1}, "x", api.Result{Names: []string{"x"}} },
			} {
				var want reached
				want.core, want.out, want.note = wordHandle(c, other(m, met))
				if len(want.out) == 0 {
					t.Fatalf("it should do something: %s", show(other(m, met)))
				}
				handles(t, "just met", c, other(m, met), want)
			}
			for _, missed := range []func(m *api.Msg){
				func(m *api.Msg) { m.To = 0 },
				func(m *api.Msg) { m.To = 1 },
				func(m *api.Msg) { m.To = 3 },
				func(m *api.Msg) { m.From = 2 },
				func(m *api.Msg) { m.From = -1 },
				func(m *api.Msg) { m.From = 4 }, // which is 1 modulo 3
				func(m *api.Msg) { m.From, m.View = 2, 5 },
				func(m *api.Msg) { m.From, m.View = 3, 6 },
				func(m *api.Msg) { m.View = 1 },
				func(m *api.Msg) { m.From, m.View = 0, 3 },
				func(m *api.Msg) { m.View = api.Greatest + 3 },
				func(m *api.Msg) { m.From, m.View = 0, api.Greatest+2 },
				func(m *api.Msg) { m.From, m.View = int(math.MaxInt64%3), math.MaxInt64 },
				func(m *api.Msg) { m.Normal = 5 },
				func(m *api.Msg) { m.Normal = -1 },
				func(m *api.Msg) { m.Last = -1 },
				func(m *api.Msg) { m.Last = api.Greatest + 1 },
				func(m *api.Msg) { m.Commit = -1 },
				func(m *api.Msg) { m.Commit = api.Greatest + 1 },
				func(m *api.Msg) { m.Behind = -1 },
				func(m *api.Msg) { m.Behind = api.Greatest + 1 },
				func(m *api.Msg) { m.Entries = entries(7, 39) },
				func(m *api.Msg) { m.Kind = 0 },
				func(m *api.Msg) { m.Kind = -1 },
				func(m *api.Msg) { m.Kind = 14 },
			} {
				stays(t, "just missed", c, other(m, missed))
			}
		}
	}
}

// heeded is a message that does something to a core.
type heeded struct {
	core api.Core
	msg  api.Msg
}

// ofEachKind: of each kind, in each status in which it does something.
func ofEachKind() []heeded {
	return []heeded{
		{backup(), said(api.Prepare, 7, 5)}, {lagging(), said(api.Prepare, 7, 5)}, {changing(), said(api.Prepare, 7, 5)},
		{backup(), said(api.Beat, 7, 5)}, {lagging(), said(api.Beat, 7, 5)}, {changing(), said(api.Beat, 7, 5)},
		{backup(), said(api.Begun, 7, 5)}, {lagging(), said(api.Begun, 7, 5)}, {changing(), said(api.Begun, 7, 5)},
		{changing(), starting(0, 2, 4)}, {primary(), starting(0, 1, 4)}, {backup(), starting(0, 2, 5)}, {lagging(), starting(0, 2, 5)},
		{electing(), balloting(0, 1, 4, 1, 3)}, {primary(), balloting(2, 1, 4, 1, 3)}, {backup(), balloting(0, 2, 5, 1, 3)},
		{backup(), api.Msg{Kind: api.Ask, From: 0, To: 2, View: 4, Behind: 3}}, {primary(), api.Msg{Kind: api.Ask, From: 0, To: 1, View: 4, Behind: 3}}, {changing(), api.Msg{Kind: api.Ask, From: 1, To: 2, View: 4, Behind: 3}},
		{backup(), tell(1, 2, 3, 8)}, {lagging(), tell(1, 2, 3, 8)}, {chosen(), tell(0, 1, 3, 8)},
		{primary(), api.Msg{Kind: api.Ok, From: 2, To: 1, View: 4, Last: 6}},
	}
}

// P20.2: of each kind, what a message must be, just missed: it does nothing.
func TestMustBeOfEachKind(t *testing.T) {
	for _, h := range ofEachKind() {
		next, out, _ := vr.Handle(h.core, h.msg)
		if same(next, h.core) && len(out) == 0 {
			t.Fatalf("it should do something: %s", show(h))
		}
		for _, missed := range []func(m *api.Msg){
			func(m *api.Msg) { m.To = (m.To + 1) % 3 },
			func(m *api.Msg) { m.To = (m.To + 2) % 3 },
			func(m *api.Msg) { m.To += 3 },
			func(m *api.Msg) { m.To = -1 },
			func(m *api.Msg) { m.From = m.To },
			func(m *api.Msg) { m.From = -1 },
			func(m *api.Msg) { m.From = 3 },
			func(m *api.Msg) { m.View = 3 },
			func(m *api.Msg) { m.View = 1 },
			func(m *api.Msg) { m.View = -1 },
			func(m *api.Msg) { m.View = api.Greatest + 1 },
			func(m *api.Msg) { m.View = api.Greatest + 2 },
			func(m *api.Msg) { m.View = api.Greatest + 3 },
			func(m *api.Msg) { m.Normal = -1 },
			func(m *api.Msg) { m.Normal = m.View + 1 },
			func(m *api.Msg) { m.Last = -1 },
			func(m *api.Msg) { m.Last = api.Greatest + 1 },
			func(m *api.Msg) { m.Commit = -1 },
			func(m *api.Msg) { m.Commit = api.Greatest + 1 },
			func(m *api.Msg) { m.Behind = -1 },
			func(m *api.Msg) { m.Behind = api.Greatest + 1 },
			func(m *api.Msg) { m.Entries = entries(1, 33) },
		} {
			stays(t, "just missed", h.core, other(h.msg, missed))
		}
	}
}

// P20.2: of each kind, fields that it doesn't name, just within their bounds: it does the same.
func TestMayBeOfEachKind(t *testing.T) {
	for _, h := range ofEachKind() {
		var want reached
		want.core, want.out, want.note = wordHandle(h.core, h.msg)
		list := []func(m *api.Msg){
			func(m *api.Msg) { m.Root, m.Data, m.Result = api.Digest{1}, "x", api.Result{Names: []string{"x"}} },
		}
		kind := h.msg.Kind
		if kind != api.Ballot {
			list = append(list, func(m *api.Msg) { m.Normal = m.View })
		}
		if kind != api.Ask && kind != api.Tell {
			list = append(list, func(m *api.Msg) { m.Behind = api.Greatest }, func(m *api.Msg) { m.Behind = 1 })
		}
		if kind != api.Prepare && kind != api.Tell {
			list = append(list, func(m *api.Msg) { m.Entries = entries(1, 32) }, func(m *api.Msg) { m.Entries = nil })
		}
		if kind == api.Start || kind == api.Ask || kind == api.Tell {
			list = append(list, func(m *api.Msg) { m.Last = api.Greatest }, func(m *api.Msg) { m.Last = 1 })
		}
		if kind == api.Start || kind == api.Ballot || kind == api.Ask || kind == api.Ok {
			list = append(list, func(m *api.Msg) { m.Commit = api.Greatest }, func(m *api.Msg) { m.Commit = 1 })
		}
		for _, met := range list {
			handles(t, "just met", h.core, other(h.msg, met), want)
		}
	}
}

// P20.2: kinds that are others' do nothing, in each status.
func TestOtherKinds(t *testing.T) {
	eachNamed(func(name string, c api.Core) {
		for _, kind := range []int{math.MinInt, -1, 0, api.Offer, api.Want, api.Piece, api.Request, api.Answered, 14, 15, math.MaxInt} {
			for from := range 3 {
				for view := int64(4); view < 8; view++ {
					m := api.Msg{Kind: kind, From: from, To: c.Id, View: view, Last: 7, Commit: 5, Behind: 4, Entries: entries(7, 7)}
					stays(t, name+", another kind", c, m)
				}
			}
		}
	})
}

// P20.2: of each message that a right core in each status is told, what the chapter's words say: drawn ones.
func TestHandleDrawn(t *testing.T) {
	d := draw(4)
	did := map[int]int{}
	for range 300000 {
		c := d.core()
		if d.Intn(50) == 0 {
			d.harm(&c)
		}
		m := d.msg(c)
		var got, want reached
		want.core, want.out, want.note = wordHandle(c, m)
		if len(want.out) > 0 || !same(want.core, c) {
			did[m.Kind]++
		}
		got.core, got.out, got.note = vr.Handle(c, m)
		comesTo(t, "P20.2: Handle", got, want)
		if t.Failed() {
			t.Fatalf("of %s\nat %s", show(c), show(m))
		}
	}
	for kind := api.Prepare; kind <= api.Tell; kind++ {
		if did[kind] < 3000 {
			t.Errorf("only %d drawn messages of the kind %d did something", did[kind], kind)
		}
	}
}
