package journal_test

import (
	"math"
	"slices"
	"testing"

	"veneer/api"
	"veneer/journal"
	"veneer/platter"
)

// played: a deed, done once, of a journal on a platter that has its power: what it answers, what is kept behind it, and what the platter has must be what the chapter says. It tells whether it was taken.
func played(t *testing.T, what string, j *journal.Journal, p *platter.Platter, d deed) bool {
	t.Helper()
	what += ": " + d.name
	before, kept := tell(p), j.Kept()
	next, fits := d.after(kept)
	e := d.do(j)
	if !fits {
		mustBe(t, what, e, api.ErrArg)
		keeps(t, what+", refused", j, kept)
		stands(t, what+", refused", p, before)
		return false
	}
	mustBe(t, what, e, api.OK)
	keeps(t, what, j, next)
	want := lasting(1-before.live, frame(d.payload))
	if !d.lays {
		data := before.parts[before.live].data + frame(d.payload)
		want = before
		want.parts[before.live] = part{data, len(data)}
	}
	stands(t, what, p, want)
	opens(t, what+", opened anew", p.Clone(), next)
	return true
}

// plays: a deed of a journal that keeps something, whichever area is live; it must be taken, or refused.
func plays(t *testing.T, what string, k api.Kept, d deed, taken bool) {
	t.Helper()
	for live := range 2 {
		j, p := journalOf(t, live, k)
		if played(t, what, j, p, d) != taken {
			t.Errorf("%s: %s of %s, %x: taken: %v", what, d.name, show(k), d.payload[:min(60, len(d.payload))], !taken)
		}
	}
}

// P18.2, P18.3: of no journal, ErrNil, whatever else is wrong.
func TestNilJournal(t *testing.T) {
	var j *journal.Journal
	for _, d := range []deed{
		views(1), views(-1), views(api.Greatest + 1), adds(entry(1)), adds(api.Entry{Op: long()[0]}), adopts(1, 0, nil), adopts(-1, -1, entries(1, 40)), lays(api.Kept{}), lays(api.Kept{Normal: 1}),
	} {
		mustBe(t, "P18.2: nil: "+d.name, d.do(j), api.ErrNil)
	}
	keeps(t, "P18.4: nil", j, api.Kept{})
}

// The chapter's examples.
func TestExamples(t *testing.T) {
	p := platter.New()
	j := opens(t, "example: a new platter", p, api.Kept{})
	mustBe(t, "example: View(3)", j.View(3), api.OK)
	stands(t, "example: View(3)", p, lasting(0, "\x02\x00\x00\x00\x01\x03\x53\x60\x18\x7c"))
	one := api.Entry{Client: 1, Number: 1, Op: mkdir("/a")}
	mustBe(t, "example: Entry", j.Entry(one), api.OK)
	keeps(t, "example: Entry", j, api.Kept{View: 3, Entries: []api.Entry{one}})
	mustBe(t, "example: Adopt", j.Adopt(3, 0, nil), api.OK)
	keeps(t, "example: Adopt", j, api.Kept{View: 3, Normal: 3})
	before := tell(p)
	mustBe(t, "example: Adopt(3, 1, ..)", j.Adopt(3, 1, []api.Entry{one}), api.ErrArg)
	mustBe(t, "example: View(3), again", j.View(3), api.ErrArg)
	stands(t, "example: what is refused", p, before)
	p.Arm(1)
	mustBe(t, "example: a crash", j.Entry(one), api.ErrDown)
	p.Cut(5)
	opens(t, "example: a crash", p, api.Kept{View: 3, Normal: 3})
	stands(t, "example: a crash", p, lasting(1, frame("\x04\x03\x03\x00\x00\x00")))
}

// P18.2: View, at and beside the view ahead and Greatest; the other things that are kept stay.
func TestView(t *testing.T) {
	for _, ahead := range []int64{0, 1, 2, 255, 1 << 32, api.Greatest - 1, api.Greatest} {
		for _, k := range []api.Kept{{View: ahead}, {View: ahead, Normal: ahead, Base: 8, State: "s", Entries: entries(9, 3)}, {View: ahead, Normal: ahead / 2, Entries: entries(1, 32)}} {
			for _, view := range append(edges(), ahead-1, ahead, ahead+1, ahead+256) {
				plays(t, "P18.2", k, views(view), view > ahead && view <= api.Greatest)
			}
		}
	}
}

// P18.2: Entry, up to as many as may be, and up to Greatest.
func TestEntry(t *testing.T) {
	for count := range 33 {
		plays(t, "P18.2: so many ahead", api.Kept{View: 2, Normal: 1, Entries: entries(1, count)}, adds(entry(70)), count < 32)
		plays(t, "P18.2: so many ahead", fullAt(8, count), adds(entry(70)), count < 32)
		if count < 32 {
			plays(t, "P18.2: up to Greatest", fullAt(api.Greatest-int64(count)-1, count), adds(entry(70)), true)
			plays(t, "P18.2: behind Greatest", fullAt(api.Greatest-int64(count), count), adds(entry(70)), false)
		}
	}
	for _, k := range []api.Kept{{}, fullAt(8, 2)} {
		for _, o := range odd() {
			plays(t, "P18.2: an operation that op.Check refuses", k, adds(api.Entry{Client: 1, Number: 1, Op: o}), true)
		}
		for _, o := range long() {
			plays(t, "P18.2: an operation without bytes", k, adds(api.Entry{Client: 1, Number: 1, Op: o}), false)
		}
		for _, n := range edges() {
			plays(t, "P18.2: an entry of no client, of no number", k, adds(api.Entry{Client: int(n), Number: -n, Op: mkdir("/a")}), true)
		}
		plays(t, "P18.2: the zero entry", k, adds(api.Entry{}), true)
	}
}

// P18.2: Adopt, with each From, at and beside the bounds of the view.
func TestAdopt(t *testing.T) {
	for _, k := range []api.Kept{{}, {View: 5, Normal: 2}, fullAt(0, 3), fullAt(8, 0), fullAt(8, 3), fullAt(8, 32), fullAt(api.Greatest-3, 3), {View: api.Greatest, Normal: 1, Base: 1, State: "s", Entries: entries(2, 1)}} {
		last := k.Base + int64(len(k.Entries))
		for _, from := range append(edges(), k.Base-1, k.Base, k.Base+1, last-1, last, last+1) {
			for _, view := range append(edges(), k.View-1, k.View, k.View+1) {
				fits := from >= k.Base && from <= last && view >= k.View && view <= api.Greatest
				for _, count := range []int{0, 1, 2} {
					plays(t, "P18.2", k, adopts(view, from, entries(70, count)), fits && from+int64(count) <= api.Greatest && from-k.Base+int64(count) <= 32)
				}
			}
		}
	}
}

// P18.2: Adopt of as many entries as may be, and of more; the ones up to From stay, and no others.
func TestAdoptMany(t *testing.T) {
	for _, ahead := range []int{0, 1, 16, 31, 32} {
		for _, base := range []int64{0, 8, 1 << 39} {
			for from := range ahead + 1 {
				for _, count := range []int{0, 1, 32 - from - 1, 32 - from, 32 - from + 1, 33, 64, 256, 1000} {
					if count >= 0 {
						plays(t, "P18.2: many", fullAt(base, ahead), adopts(6, base+int64(from), entries(500, count)), from+count <= 32)
					}
				}
			}
		}
	}
	for count := range 33 {
		start := fullAt(api.Greatest-16, 16)
		plays(t, "P18.2: Greatest", start, adopts(6, api.Greatest-16, entries(500, count)), count <= 16)
	}
	for _, o := range long() {
		for at := range 3 {
			list := entries(500, 3)
			list[at].Op = o
			plays(t, "P18.2: an operation without bytes", fullAt(8, 2), adopts(6, 9, list), false)
		}
	}
	for _, o := range odd() {
		plays(t, "P18.2: an operation that op.Check refuses", fullAt(8, 2), adopts(6, 9, []api.Entry{entry(1), {Client: -1, Number: math.MinInt64, Op: o}}), true)
	}
	plays(t, "P18.2: as many bytes as may be", fullAt(api.Greatest-32, 3), adopts(api.Greatest, api.Greatest-32, greatKept().Entries), true)
}

// allDeeds: deeds of each kind, such as fullAt(8, 2) takes.
func allDeeds() []deed {
	return []deed{views(6), adds(entry(7)), adopts(5, 8, nil), adopts(7, 9, entries(70, 3)), lays(api.Kept{}), lays(api.Kept{View: 2, Normal: 1, Base: 16, State: "state", Entries: entries(17, 2)})}
}

// wrongDeeds: deeds of each kind, such as it doesn't take.
func wrongDeeds() []deed {
	return []deed{views(5), views(-1), views(api.Greatest + 1), adds(api.Entry{Op: long()[0]}), adopts(4, 8, nil), adopts(5, 7, nil), adopts(5, 11, nil), adopts(5, 9, entries(1, 32)), lays(api.Kept{Normal: 1}), lays(api.Kept{State: "s"})}
}

// P18.2: what wouldn't fit is ErrArg ahead of ErrDown, and is no change.
func TestRefusedAheadOfPower(t *testing.T) {
	for live := range 2 {
		for _, d := range wrongDeeds() {
			j, p := journalOf(t, live, fullAt(8, 2))
			p.Arm(1)
			before := tell(p)
			mustBe(t, "P18.2: "+d.name, d.do(j), api.ErrArg)
			stands(t, "P18.2: "+d.name+", refused", p, before)
			if armed(p) != 1 {
				t.Errorf("P18.2: %s, refused: a change was made", d.name)
			}
			p.Sync(0)
			mustBe(t, "P18.2: without power: "+d.name, d.do(j), api.ErrArg)
		}
		for _, d := range allDeeds() {
			j, p := journalOf(t, live, fullAt(8, 2))
			p.Arm(1)
			p.Sync(0)
			before := tell(p)
			mustBe(t, "P18.2: without power: "+d.name, d.do(j), api.ErrDown)
			stands(t, "P18.2: without power: "+d.name, p, before)
		}
	}
}

// P18.2: the error of the Append, with which nothing is synced, and that of the Sync; with the power going later there is none.
func TestWritePower(t *testing.T) {
	for live := range 2 {
		for _, d := range allDeeds() {
			if d.lays {
				continue
			}
			for calls := 1; calls <= 4; calls++ {
				j, p := journalOf(t, live, fullAt(8, 2))
				p.Append(1-live, []byte("other"))
				p.Append(live, nil)
				before := tell(p)
				p.Arm(calls)
				if calls > 2 {
					played(t, "P18.2: the power goes later", j, p, d)
					if armed(p) != calls-2 {
						t.Errorf("P18.2: %s: the power goes in the change %d; want %d", d.name, armed(p), calls-2)
					}
					continue
				}
				mustBe(t, "P18.2: "+d.name, d.do(j), api.ErrDown)
				want := before
				want.down = true
				want.parts[live].data += frame(d.payload)
				stands(t, "P18.2: the power goes in "+d.name, p, want)
			}
		}
	}
}

// P18.2: the Sync is of all that the live area has.
func TestWriteSyncs(t *testing.T) {
	for _, d := range allDeeds() {
		p := platter.New()
		p.Append(0, []byte(frame(whole(allFields(fullAt(8, 2))))))
		j := opens(t, "P18.1: not synced", p, fullAt(8, 2))
		played(t, "P18.2: behind what isn't synced", j, p, d)
	}
}

// P18.2: many records, one behind the other, of one journal.
func TestWriteMany(t *testing.T) {
	p := platter.New()
	j := opens(t, "P18.1: new", p, api.Kept{})
	data := ""
	var payloads []string
	for i := range 32 {
		for _, d := range []deed{views(int64(i + 1)), adds(entry(int64(i + 1)))} {
			mustBe(t, "P18.2: "+d.name, d.do(j), api.OK)
			payloads = append(payloads, d.payload)
			data += frame(d.payload)
		}
		stands(t, "P18.2: many", p, lasting(0, data))
	}
	mustBe(t, "P18.2: one too many", j.Entry(entry(33)), api.ErrArg)
	want := api.Kept{View: 32, Entries: entries(1, 32)}
	keeps(t, "P18.2: many", j, want)
	opens(t, "P18.2: many", p, want)
	if got, fits := recalled(payloads...); !fits || !same(got, want) {
		t.Errorf("the chapter's words, once more: %s", show(got))
	}
}

// scribble: a list of entries, with its spare room, is written over.
func scribble(list []api.Entry) {
	list = list[:cap(list)]
	for i := range list {
		list[i] = api.Entry{Client: -9, Number: -9, Op: api.Op{Kind: -9, Path: "scribble"}}
	}
}

// P18.4, rule 3: entries that are handed in aren't changed, their spare room neither, and may be written over behind the call; taken or refused, with power or without.
func TestHandedInIsNotKept(t *testing.T) {
	for _, count := range []int{0, 1, 5, 31, 32, 33} {
		for calls := range 3 {
			for _, do := range []func(j *journal.Journal, list []api.Entry) api.Errno{
				func(j *journal.Journal, list []api.Entry) api.Errno { return j.Adopt(9, 0, list) },
				func(j *journal.Journal, list []api.Entry) api.Errno { return j.Adopt(9, 3, list) },
				func(j *journal.Journal, list []api.Entry) api.Errno { return j.Adopt(1, 0, list) },
				func(j *journal.Journal, list []api.Entry) api.Errno { return j.Lay(api.Kept{View: 7, Entries: list}) },
				func(j *journal.Journal, list []api.Entry) api.Errno { return j.Lay(api.Kept{Normal: 7, Entries: list}) },
				func(_ *journal.Journal, list []api.Entry) api.Errno { return journal.Check(api.Kept{Entries: list}) },
			} {
				j, p := journalOf(t, 0, fullAt(0, 4))
				p.Arm(calls)
				room := entries(100, count+7)
				list := slices.Clone(room)
				e := do(j, list[2:2+count])
				if !slices.Equal(list, room) {
					t.Errorf("rule 3: %d entries, or those round them, were changed", count)
				}
				before, kept := tell(p), j.Kept()
				scribble(list)
				stands(t, "P18.4: written over", p, before)
				if e != api.ErrDown {
					keeps(t, "P18.4: written over", j, kept)
				}
				if e == api.OK && count > 0 { // and what comes behind is right, too
					p.Arm(0)
					mustBe(t, "P18.2: Adopt", j.Adopt(10, 1, nil), api.OK)
					keeps(t, "P18.4: written over, and cut", j, api.Kept{View: 10, Normal: 10, Entries: kept.Entries[:1]})
				}
			}
		}
	}
}
