package vr_test

import (
	"slices"
	"testing"

	"veneer/api"
	"veneer/vr"
)

// roomy: a core whose lists have room behind them, with something in it, and what all of that is, for a later look.
func roomy(c api.Core) (api.Core, api.Core) {
	all := api.Core{
		Entries: append(slices.Clone(c.Entries), told(1, 9)...),
		Acks:    append(slices.Clone(c.Acks), 91, 92, 93),
		Starts:  append(slices.Clone(c.Starts), true, false, true),
		Votes:   append(slices.Clone(c.Votes), vote(91, 92, 93), vote(94, 95, 96)),
	}
	c.Entries, c.Acks = all.Entries[:len(c.Entries)], all.Acks[:len(c.Acks)]
	c.Starts, c.Votes = all.Starts[:len(c.Starts)], all.Votes[:len(c.Votes)]
	return c, all
}

// sameLists: whether the lists of two cores are one.
func sameLists(a, b api.Core) bool {
	return slices.Equal(a.Entries, b.Entries) && slices.Equal(a.Acks, b.Acks) && slices.Equal(a.Starts, b.Starts) && slices.Equal(a.Votes, b.Votes)
}

// answered: what a call answered: cores, messages.
type answered struct {
	core api.Core
	out  []api.Msg
}

// calls: each call that is handed a core, of this core, a message, an entry.
func calls(m api.Msg, e api.Entry, n int64) []func(c api.Core) answered {
	return []func(c api.Core) answered{
		func(c api.Core) answered {
			vr.Check(c)
			vr.Last(c)
			vr.Leads(c)
			vr.Wants(c, m)
			return answered{core: c}
		},
		func(c api.Core) answered { next, out, _ := vr.Tick(c); return answered{next, out} },
		func(c api.Core) answered { next, out, _ := vr.Handle(c, m); return answered{next, out} },
		func(c api.Core) answered { next, out, _, _ := vr.Request(c, e); return answered{next, out} },
		func(c api.Core) answered { next, _ := vr.Compact(c, n, root); return answered{core: next} },
		func(c api.Core) answered { next, _ := vr.Install(c, n, root); return answered{core: next} },
	}
}

// Rule 3: the core and the message that are handed in stay as they are, and so does the room behind their lists.
func TestNothingIsChanged(t *testing.T) {
	d := draw(9)
	for range 20000 {
		drawn := d.core()
		if d.Intn(10) == 0 {
			d.harm(&drawn)
		}
		c, room := roomy(drawn)
		was := own(room)
		m := d.msg(c)
		told := append(slices.Clone(m.Entries), told(1, 5)...)
		toldWas := slices.Clone(told)
		m.Entries = told[:len(m.Entries)]
		m.Result.Names = []string{"a", "b"}
		for i, call := range calls(m, d.entry(), d.near(c.Commit)) {
			call(c)
			if !sameLists(room, was) || !slices.Equal(told, toldWas) || m.Result.Names[0] != "a" || m.Result.Names[1] != "b" {
				t.Fatalf("rule 3: call %d changed what it was handed: %s; %s", i, show(c), show(m))
			}
		}
	}
}

// overwrite: all elements of a core's lists, and of the room behind them, become others.
func overwrite(c api.Core) {
	for i := range c.Entries[:cap(c.Entries)] {
		c.Entries[:cap(c.Entries)][i] = api.Entry{Client: -77}
	}
	for i := range c.Acks[:cap(c.Acks)] {
		c.Acks[:cap(c.Acks)][i] = -77
	}
	for i := range c.Starts[:cap(c.Starts)] {
		c.Starts[:cap(c.Starts)][i] = !c.Starts[:cap(c.Starts)][i]
	}
	for i := range c.Votes[:cap(c.Votes)] {
		c.Votes[:cap(c.Votes)][i] = vote(-77, -77, -77)
	}
}

// overwriteMsg: so do those of a message.
func overwriteMsg(m api.Msg) {
	for i := range m.Entries[:cap(m.Entries)] {
		m.Entries[:cap(m.Entries)][i] = api.Entry{Client: -77}
	}
}

// copied: an answer with lists of its own.
func copied(a answered) answered {
	a.core = own(a.core)
	a.out = slices.Clone(a.out)
	for i := range a.out {
		a.out[i].Entries = slices.Clone(a.out[i].Entries)
	}
	return a
}

// isAlike: whether two answers are one.
func isAlike(a, b answered) bool {
	return same(a.core, b.core) && slices.EqualFunc(a.out, b.out, alike)
}

// Rule 3: what is handed in isn't kept in what is answered: written over, it changes no answer; nor does an answer that is written over change it.
func TestNothingIsShared(t *testing.T) {
	d := draw(10)
	for range 8000 {
		c := d.core()
		if d.Intn(10) == 0 {
			d.harm(&c)
		}
		m, e, n := d.msg(c), d.entry(), d.near(c.Commit)
		for i := range calls(m, e, n)[1:] {
			handed, room := roomy(c)
			sent := other(m)
			got := calls(sent, e, n)[i+1](handed)
			was := copied(got)
			overwrite(room)
			overwriteMsg(sent)
			if !isAlike(got, was) {
				t.Fatalf("rule 3: call %d keeps what it was handed: %s; %s", i+1, show(c), show(m))
			}
			handed, room = roomy(c)
			roomWas := own(room)
			sent = other(m)
			got = calls(sent, e, n)[i+1](handed)
			overwrite(got.core)
			for _, o := range got.out {
				overwriteMsg(o)
			}
			if !sameLists(room, roomWas) || !slices.Equal(sent.Entries, m.Entries) {
				t.Fatalf("rule 3: call %d answers what it was handed: %s; %s", i+1, show(c), show(m))
			}
		}
	}
}

// Rule 3: no two lists of an answer share anything: the core's and each message's.
func TestAnswersShareNothing(t *testing.T) {
	d := draw(11)
	many := 0
	for range 20000 {
		c := d.core()
		m, e, n := d.msg(c), d.entry(), d.near(c.Commit)
		for i, call := range calls(m, e, n)[1:] {
			got := call(own(c))
			for at := range got.out {
				was := copied(got)
				overwriteMsg(got.out[at])
				was.out[at] = got.out[at]
				if !isAlike(got, was) {
					t.Fatalf("rule 3: call %d: message %d shares its entries: %s; %s", i+1, at, show(c), show(m))
				}
				many++
			}
			was := copied(got)
			overwrite(got.core)
			was.core = got.core
			if !isAlike(got, was) {
				t.Fatalf("rule 3: call %d: a message shares the core's entries: %s; %s", i+1, show(c), show(m))
			}
		}
	}
	if many < 20000 {
		t.Errorf("only %d messages", many)
	}
}

// Rule 3: Restart keeps nothing of what was kept, and changes it not.
func TestRestartSharesNothing(t *testing.T) {
	for id := range 3 {
		for normal := int64(3); normal < 5; normal++ {
			room := entries(1, 9)
			k := api.Kept{View: 4, Normal: normal, Entries: room[:5]}
			c, e := vr.Restart(id, 3, k, root)
			mustBe(t, "P20.1: Restart", e, api.OK)
			was := own(c)
			overwrite(api.Core{Entries: room})
			if !same(c, was) {
				t.Errorf("rule 3: Restart keeps what it was handed: %s", show(c))
			}
			copy(room, entries(1, 9))
			c, _ = vr.Restart(id, 3, k, root)
			overwrite(c)
			if !slices.Equal(room, entries(1, 9)) {
				t.Errorf("rule 3: Restart answers what it was handed: %s", show(room))
			}
		}
	}
}

// Rule 2: a list without elements is nil or empty, in what is handed in.
func TestListsWithoutElements(t *testing.T) {
	d := draw(12)
	for range 20000 {
		c := d.core()
		m, e, n := d.msg(c), d.entry(), d.near(c.Commit)
		empty := own(c)
		empty.Entries = append([]api.Entry{}, c.Entries...)
		empty.Acks = append([]int64{}, c.Acks...)
		empty.Starts = append([]bool{}, c.Starts...)
		empty.Votes = append([]api.Vote{}, c.Votes...)
		sent := other(m)
		sent.Entries = append([]api.Entry{}, m.Entries...)
		mustBe(t, "rule 2: Check", vr.Check(empty), vr.Check(c))
		for i := range calls(m, e, n) {
			if got, want := calls(sent, e, n)[i](empty), calls(m, e, n)[i](own(c)); !isAlike(got, want) {
				t.Fatalf("rule 2: call %d: %s; want %s", i, show(got), show(want))
			}
		}
	}
}

// Rule 5: what a call answers hangs on its arguments alone: called again, among others, it is the same.
func TestSameAgain(t *testing.T) {
	d := draw(13)
	type one struct {
		call func(c api.Core) answered
		core api.Core
		was  answered
	}
	var all []one
	for range 2000 {
		c := d.core()
		for _, call := range calls(d.msg(c), d.entry(), d.near(c.Commit)) {
			all = append(all, one{call, c, copied(call(own(c)))})
		}
	}
	for _, at := range d.Perm(len(all)) {
		if got := all[at].call(own(all[at].core)); !isAlike(got, all[at].was) {
			t.Fatalf("rule 5: %s; it was %s", show(got), show(all[at].was))
		}
	}
}

// Rule 2: beside an error of New and Restart the core is the zero one; beside other errors it is as it was, as the chapter says, and there are no messages and no note.
func TestBesideErrors(t *testing.T) {
	d := draw(14)
	wrong := 0
	for range 20000 {
		c := d.core()
		if d.Intn(5) == 0 {
			d.harm(&c)
		}
		next, out, note, e := vr.Request(c, d.entry())
		if e != api.OK {
			wrong++
			comesTo(t, "P20.3: beside an error", reached{next, out, note}, reached{core: c})
		}
		if next, e := vr.Compact(c, d.near(c.Commit), root); e != api.OK {
			comesTo(t, "P20.4: beside an error", reached{core: next}, reached{core: c})
		}
		if next, e := vr.Install(c, d.near(c.Commit), root); e != api.OK {
			comesTo(t, "P20.4: beside an error", reached{core: next}, reached{core: c})
		}
	}
	if wrong < 5000 {
		t.Errorf("only %d errors", wrong)
	}
}
