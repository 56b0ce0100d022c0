package vr_test

import (
	"testing"

	"veneer/api"
	"veneer/vr"
)

// P20.2: a primary beats at each second tick.
func TestTickPrimary(t *testing.T) {
	for left, want := range map[int]int{0: 2, 1: 2, 2: 1, 3: 2, 1000: 999} {
		c := but(primary(), func(c *api.Core) { c.Left = left })
		r := reached{core: but(c, func(c *api.Core) { c.Left = want })}
		if left < 2 {
			r.out = []api.Msg{{Kind: api.Beat, From: 1, To: 0, View: 4, Last: 6, Commit: 4}, {Kind: api.Beat, From: 1, To: 2, View: 4, Last: 6, Commit: 4}}
		}
		ticks(t, "a primary", c, r)
	}
}

// P20.2: a backup is silent till it begins a change; the Starts go to all others, by rising numbers.
func TestTickBackup(t *testing.T) {
	for left, want := range map[int]int{2: 1, 3: 2, 1000: 999} {
		c := but(backup(), func(c *api.Core) { c.Left = left })
		ticks(t, "a backup", c, reached{core: but(c, func(c *api.Core) { c.Left = want })})
	}
	for _, left := range []int{0, 1} {
		c := but(backup(), func(c *api.Core) { c.Left = left })
		ticks(t, "a backup's last", c, begun(c, 5))
	}
}

// begun: what a change to a view comes to.
func begun(c api.Core, view int64) reached {
	next := but(c, func(c *api.Core) {
		c.Status, c.View, c.Left = api.StatusChange, view, 8+2*c.Id
		c.Acks, c.Votes, c.Voted, c.Best = nil, nil, false, -1
		c.Starts = make([]bool, c.Nodes)
		c.Starts[c.Id] = true
	})
	return reached{core: next, out: all(c, api.Msg{Kind: api.Start, From: c.Id, View: view}), note: api.Note{Kind: api.NoteView}}
}

// P20.2: whoever doesn't lead begins a change to the next view, once it waited for long enough.
func TestTickBeginsAChange(t *testing.T) {
	eachNamed(func(name string, c api.Core) {
		for _, left := range []int{0, 1} {
			c.Left = left
			if name != "primary" {
				ticks(t, name, c, begun(c, 5))
			}
		}
	})
	for id := range 7 {
		c := api.Core{Id: id, Nodes: 7, View: 8, Normal: 8, Left: 1, Best: -1} // its primary is 1
		if id != 1 {
			ticks(t, "one of seven", c, begun(c, 9))
		}
	}
}

// P20.2: there is no view past Greatest.
func TestTickAtGreatest(t *testing.T) {
	for _, left := range []int{0, 1, 2} {
		eachNamed(func(name string, c api.Core) { // Greatest modulo 3 is 1, as is 4
			c.View, c.Left = api.Greatest, left
			if c.Status == api.StatusNormal {
				c.Normal = api.Greatest
			}
			if left < 2 && name != "primary" {
				ticks(t, name+" at Greatest", c, reached{core: but(c, func(c *api.Core) { c.Left = 8 + 2*c.Id })})
				return
			}
			var want reached
			want.core, want.out, want.note = wordTick(c)
			ticks(t, name+" at Greatest", c, want)
		})
		c := but(backup(), func(c *api.Core) { c.View, c.Normal, c.Left = api.Greatest-1, api.Greatest-1, left }) // its primary is 0
		if left < 2 {
			ticks(t, "one below Greatest", c, begun(c, api.Greatest))
		}
	}
}

// P20.2: in a change, Start goes again; then the Ballot, once it voted; then Ask to the best one.
func TestTickChanging(t *testing.T) {
	starts := func(id int) []api.Msg {
		return all(api.Core{Id: id, Nodes: 3}, api.Msg{Kind: api.Start, From: id, View: 4})
	}
	for _, left := range []int{2, 3, 1000} {
		wait := func(c *api.Core) { c.Left = left }
		less := func(c *api.Core) { c.Left = left - 1 }
		ticks(t, "changing", but(changing(), wait), reached{core: but(changing(), less), out: starts(2)})
		voted := but(changing(), wait, func(c *api.Core) { c.Voted = true })
		ballot := api.Msg{Kind: api.Ballot, From: 2, To: 1, View: 4, Normal: 2, Last: 6}
		ticks(t, "changing, voted", voted, reached{core: but(voted, less), out: append(starts(2), ballot)})
		ticks(t, "electing", but(electing(), wait), reached{core: but(electing(), less), out: starts(1)})
		ask := func(to int) api.Msg { return api.Msg{Kind: api.Ask, From: 1, To: to, View: 4, Behind: 4} }
		ticks(t, "chosen", but(chosen(), wait), reached{core: but(chosen(), less), out: append(starts(1), ask(0))})
		two := but(chosen(), wait, func(c *api.Core) { c.Best = 2; c.Voted = false })
		ticks(t, "chosen, another one", two, reached{core: but(two, less), out: append(starts(1), ask(2))})
		itself := but(chosen(), wait, func(c *api.Core) { c.Best = 1 })
		ticks(t, "chosen, itself", itself, reached{core: but(itself, less), out: starts(1)})
		none := but(chosen(), wait, func(c *api.Core) { c.Best = -1 })
		ticks(t, "nobody chosen", none, reached{core: but(none, less), out: starts(1)})
	}
}

// P20.2: one that lags asks at each tick.
func TestTickLagging(t *testing.T) {
	for _, left := range []int{2, 3, 1000} {
		c := but(lagging(), func(c *api.Core) { c.Left = left })
		ask := api.Msg{Kind: api.Ask, From: 2, To: 1, View: 4, Behind: 4}
		ticks(t, "lagging", c, reached{core: but(c, func(c *api.Core) { c.Left = left - 1 }), out: []api.Msg{ask}})
	}
}

// P20.2: a core that isn't right stays as it is.
func TestTickOfWrong(t *testing.T) {
	eachNamed(func(name string, c api.Core) {
		for _, edit := range []func(c *api.Core){
			func(c *api.Core) { c.Left = -1 },
			func(c *api.Core) { c.Left = 1001 },
			func(c *api.Core) { c.Best = 3 },
			func(c *api.Core) { c.Nodes = 4 },
			func(c *api.Core) { c.Nodes = 0 },
			func(c *api.Core) { c.Id = 7 },
			func(c *api.Core) { c.Commit = 7 },
			func(c *api.Core) { c.Status = 9 },
			func(c *api.Core) { c.View = -1 },
			func(c *api.Core) { c.Entries = entries(1, 33) },
		} {
			wrong := but(c, edit)
			ticks(t, "a wrong "+name, wrong, reached{core: wrong})
			stays(t, "a wrong "+name, wrong, api.Msg{Kind: api.Start, To: wrong.Id, View: 5})
			stays(t, "a wrong "+name, wrong, api.Msg{Kind: api.Begun, To: wrong.Id, From: 2, View: 5})
			stays(t, "a wrong "+name, wrong, api.Msg{Kind: api.Beat, To: wrong.Id, From: 1, View: 4})
		}
	})
	ticks(t, "the zero core", api.Core{}, reached{})
	stays(t, "the zero core", api.Core{}, api.Msg{Kind: api.Start, From: 1})
}

// P20.2: the chapter's example: ten ticks, and a change begins.
func TestTickExample(t *testing.T) {
	c, e := vr.New(1, 3)
	mustBe(t, "P20.1: New", e, api.OK)
	mustBe(t, "P20.1: Left", c.Left, 10)
	for n := 9; n > 0; n-- {
		want := but(c, func(c *api.Core) { c.Left = n })
		ticks(t, "the example", c, reached{core: want})
		c = want
	}
	ticks(t, "the example's tenth", c, begun(c, 1))
}

// P20.2: ticks of drawn cores are what the chapter's words say.
func TestTickDrawn(t *testing.T) {
	d := draw(3)
	for range 60000 {
		c := d.core()
		if d.Intn(10) == 0 {
			d.harm(&c)
		}
		var want reached
		want.core, want.out, want.note = wordTick(c)
		ticks(t, "a drawn core", c, want)
		if t.Failed() {
			t.Fatalf("it is %s", show(c))
		}
	}
}
